import Derived.Test.YthhbpebihgjpjaaGreatDoorZ20
namespace Go.Proofs.YthhbpebihgjpjaaGreatDoor
set_option maxRecDepth 1000000
set_option maxHeartbeats 20000000
set_option linter.all false
section
open Go.RowKit
variable {w:ak}{k B n:Nat}{e:TypeId}{v:Value}{xs:List Value}
theorem iZ{cs:Array Value}{t:TypeId}{fr:Nat×Nat}(h:w.heap[k]?=some (.cells cs t fr)){s:Nat}(ho:w.ownsRow B e s v n xs)(he:e≠t):v.ownBlock≠some k:=by
 intro hk;obtain⟨h1,⟨rfl,h0⟩|⟨g,cap,cur,rfl,hg,hh,r⟩⟩:=ho
 ·cases hk
 have e1:g=k:=ax hk;subst e1;rw[hh] at h;injection h with h;injection h with _ h _;exact he h
theorem pF{B':Nat}{e':TypeId}{s s':Nat}{v':Value}{n':Nat}{xs':List Value}(h:w.ownsRow B e s v n xs)(h':w.ownsRow B' e' s' v' n' xs')(he:e≠e')(hk:v.ownBlock=some k):v'.ownBlock≠some k:=by
 obtain⟨h1,⟨rfl,h0⟩|⟨g,cap,cur,rfl,hg,hh,r⟩⟩:=h
 ·cases hk
 have e1:g=k:=ax hk;subst e1;exact iZ hh h' (fun e=>he e.symm)
def rV(I:qx):DJ:=(I.map fun x=>(x.1,x.2.1)).reverse
theorem lu(I:qx)(p:Nat)(l:List Nat)(v:Value):rV (I++[(p,l,v)])=(p,l)::rV I:=by simp[rV]
def vH(w:ak)(gN:Nat)(N:List (List Nat)):Prop:=∀i l,N[i]?=some l->∃v,w.cell? ⟨gN,i,none⟩=some v/\sw w v l
structure rM(w0:ak)(wb sb gN cN gs cS:Nat)(N:List (List Nat))(vo vi:Value)(I:qx)(s o:List Nat)(w:ak):Prop where
 row:Vv w wb (.slice (some ⟨gN,0,none⟩) N.length cN) (.slice (some ⟨gs,0,none⟩) N.length cS) vo
 seen:w.ownsRow w0.heap.size 206 1 (.slice (some ⟨gs,0,none⟩) N.length cS) N.length (mq s)
 order:w.ownsRow w0.heap.size 3 1 vo o.length (mq o)
 sN:za w sb vi
 items:w.ownsRow w0.heap.size 212 2 vi I.length (mr I)
 left:∀x∈I,sw w0 x.2.2 x.2.1
 needs:vH w0 gN N
 bl:Below w0.heap.size w0 w
 Ck:w0.heap.size<=wb
 slow:w0.heap.size<=sb
variable {gs cS:Nat}{s:List Nat}
theorem CB(h:w.ownsRow B 206 1 (.slice (some ⟨gs,0,none⟩) n cS) n (mq s)):s.length=n/\∃cur,w.heap[gs]?=some (.cells cur 206 (0,0))/\∀i,i<n->cur[i]?=some (.int .i64 (s.getD i 0:Nat)):=by
 obtain⟨h1,⟨e,h0⟩|⟨g',cap',cur,e,hg,hh,hn,hm,hs,ht⟩⟩:=h
 ·cases e
 injection e with e1 e2 e3;injection e1 with e1;injection e1 with e1 _ _;subst e1;rw[QG,PG] at h1;refine⟨h1,cur,hh,fun i hi=>?_⟩
 have hx:(mq s)[i]?=some (.int .i64 (s.getD i 0:Nat)):=by
  refine TJ ?_;rw[dx,fe aJ];rfl
 rw[<-ht,xQ] at hx
 split at hx
 ·rw[<-cZ];exact hx
 cases hx
variable {w0:ak}{wb sb gN cN:Nat}{N:List (List Nat)}{vo vi:Value}{I:qx}{o:List Nat}
theorem rM.need(h:rM w0 wb sb gN cN gs cS N vo vi I s o w){i:Nat}(hi:i<N.length):∃av cv,w.cell? ⟨gN,i,none⟩=some (.slice av (N.getD i []).length cv)/\sw w0 (.slice av (N.getD i []).length cv) (N.getD i []):=by
 have hg:N[i]?=some (N.getD i []):=by rw[dx,fe hi];rfl
 obtain⟨v,hc,hv⟩:=h.needs i _ hg;obtain⟨ao,cap,e,hcap,hr⟩:=id hv;subst e;exact⟨ao,cap,(h.bl.cell (p:=⟨gN,i,none⟩) (aG hc)).trans hc,hv⟩
theorem rM.ah1(h:rM w0 wb sb gN cN gs cS N vo vi I s o w)(hp:0<N.length):gs≠wb/\gs≠gN/\gs≠sb:=by
 refine⟨fun e=>iZ h.row h.seen bS (by rw[<-e];rfl),fun e=>?_,fun e=>iZ h.sN h.seen bS (by rw[<-e];rfl)⟩;obtain⟨v,hc,_⟩:=h.needs 0 N[0] eB;have h1:=(bF h.seen gs rfl).1;have h2:=aG hc;simp only at h2;omega
variable {w':ak}{p:Nat}
theorem rM.mark(h:rM w0 wb sb gN cN gs cS N vo vi I s o w){x:Nat}(hm:lF (fun k=>k=gs) w w')(hg:w'.heap[gs]?=(w.setCell ⟨gs,p,none⟩ (.int .i64 (x:Nat))).heap[gs]?):rM w0 wb sb gN cN gs cS N vo vi I (s.set p x) o w':=by
 have off:∀k,k<w.heap.size->k≠gs->w'.heap[k]?=w.heap[k]?:=fun k hk hn=>hm.block k hk hn
 have hgl:=(bF h.seen gs rfl)
 have hsn:gs≠sb:=fun e=>iZ h.sN h.seen bS (by rw[<-e];rfl)
 have hwn:gs≠wb:=fun e=>iZ h.row h.seen bS (by rw[<-e];rfl)
 exact {
  row:=(off wb (bN h.row) (fun e=>hwn e.symm)).trans h.row
  seen:=by
   have hr:=FC h.seen p (.int .i64 (x:Nat));rw[<-ZF] at hr;exact dR hr (fun k hk=>by have e:gs=k:=ax hk;subst e;exact hg)
  order:=dR h.order (fun k hk=>off k (bF h.order k hk).2 (fun e=>pF h.order h.seen bS hk (by rw[e];rfl)))
  sN:=(off sb h.sN.lt (fun e=>hsn e.symm)).trans h.sN
  items:=dR h.items (fun k hk=>off k (bF h.items k hk).2 (fun e=>pF h.items h.seen bS hk (by rw[e];rfl)))
  left:=h.left
  needs:=h.needs
  bl:=lF.below h.bl h.bl.size hm (fun k hk=>by rw[hk];exact hgl.1)
  Ck:=h.Ck
  slow:=h.slow}
theorem rM.marked(h:rM w0 wb sb gN cN gs cS N vo vi I s o w)(p x:Nat):rM w0 wb sb gN cN gs cS N vo vi I (s.set p x) o (w.setCell ⟨gs,p,none⟩ (.int .i64 (x:Nat))):=
 h.mark ⟨rfl,rfl,rfl,eB,fun k hk hn=>au _ _ _ _ hn⟩ rfl
variable {l:List Nat}
theorem rM.push{Xu:Value}(h:rM w0 wb sb gN cN gs cS N vo vi I s o w)(hv:sw w0 v l)(hr:za w' sb Xu)(ho:w'.ownsRow w0.heap.size 212 2 Xu (I.length+1) (mr (I++[(p,l,v)])))(hm:lF (fun k=>k=sb\/vi.ownBlock=some k) w w'):rM w0 wb sb gN cN gs cS N vo Xu (I++[(p,l,v)]) s o w':=by
 have off:∀k,k<w.heap.size->k≠sb->vi.ownBlock≠some k->w'.heap[k]?=w.heap[k]?:=fun k hk hn h2=>hm.block k hk (fun q=>q.elim hn h2)
 have hws:wb≠sb:=fun e=>by
  have h1:=h.row;unfold Vv at h1;rw[e,h.sN] at h1;injection h1 with h1;injection h1 with _ h1 _;exact absurd h1 bS
 exact {
  row:=(off wb (bN h.row) hws (iZ h.row h.items bS)).trans h.row
  seen:=dR h.seen (fun k hk=>off k (bF h.seen k hk).2 (fun e=>iZ h.sN h.seen bS (by rw[<-e];exact hk)) (pF h.seen h.items bS hk))
  order:=dR h.order (fun k hk=>off k (bF h.order k hk).2 (fun e=>iZ h.sN h.order bS (by rw[<-e];exact hk)) (pF h.order h.items bS hk))
  sN:=hr
  items:=by rw[aI];exact ho
  left:=fun x hx=>by
   rcases bQ.1 hx with hx|hx
   ·exact h.left x hx
   obtain rfl:=bD.1 hx;exact hv
  needs:=h.needs
  bl:=lF.below h.bl h.bl.size hm (fun k hk=>by
   rcases hk with hk|hk
   ·rw[hk];exact h.slow
   exact(bF h.items k hk).1)
  Ck:=h.Ck
  slow:=h.slow}
theorem WS(I:qx)(p:Nat)(l:List Nat)(v v2:Value)(l2:List Nat):(mr (I++[(p,l,v)])).set (I.length*2+1) v2=mr (I++[(p,l2,v2)]):=by
 rw[vM,vM,MN _ _ (by rw[zx];omega),zx,show I.length*2+1-I.length*2=1 by omega];rfl
variable {g cap:Nat}
theorem rM.aeg{l2:List Nat}{v2:Value}(h:rM w0 wb sb gN cN gs cS N vo (.slice (some ⟨g,0,none⟩) (I.length+1) cap) (I++[(p,l,v)]) s o w)(hv:sw w0 v2 l2):rM w0 wb sb gN cN gs cS N vo (.slice (some ⟨g,0,none⟩) (I.length+1) cap) (I++[(p,l2,v2)]) s o (w.setCell ⟨g,I.length*2+1,none⟩ v2):=by
 have hit:w.ownsRow w0.heap.size 212 2 (.slice (some ⟨g,0,none⟩) (I.length+1) cap) (I.length+1) (mr (I++[(p,l,v)])):=by have:=h.items;rw[aI] at this;exact this
 have off:∀k,k≠g->(w.setCell ⟨g,I.length*2+1,none⟩ v2).heap[k]?=w.heap[k]?:=fun k hn=>au _ _ _ _ hn
 exact {
  row:=(off wb (fun e=>iZ h.row h.items bS (by rw[e];rfl))).trans h.row
  seen:=dR h.seen (fun k hk=>off k (fun e=>pF h.seen h.items bS hk (by rw[e];rfl)))
  order:=dR h.order (fun k hk=>off k (fun e=>pF h.order h.items bS hk (by rw[e];rfl)))
  sN:=(off sb (fun e=>iZ h.sN h.items bS (by rw[e];rfl))).trans h.sN
  items:=by
   rw[aI,<-WS I p l v v2 l2];exact FC hit _ _
  left:=fun x hx=>by
   rcases bQ.1 hx with hx|hx
   ·exact h.left x (fD _ hx)
   obtain rfl:=bD.1 hx;exact hv
  needs:=h.needs
  bl:=h.bl.setCell (p:=⟨g,I.length*2+1,none⟩) (bF hit g rfl).1 _
  Ck:=h.Ck
  slow:=h.slow}
theorem ZV{m:Nat}{ys:List Value}(h:w.ownsRow B e k (.slice (some ⟨g,0,none⟩) m cap) m (xs++ys))(hx:xs.length=n*k)(hnm:n<=m):w.ownsRow B e k (.slice (some ⟨g,0,none⟩) n cap) n xs:=by
 obtain⟨h1,⟨e,h0⟩|⟨g',cap',cur,e,hg,hh,hn,hm,hs,ht⟩⟩:=h
 ·cases e
 injection e with e1 e2 e3;injection e1 with e1;injection e1 with e1 _ _;subst e1 e3;refine⟨hx,aP ⟨g,cap,cur,rfl,hg,hh,aJ,hm,hs,?_⟩⟩;have:=ig (List.take (n*k)) ht;rw[List.take_take,lK (Nat.mul_le_mul_right k hnm)] at this;rw[this,<-hx,List.take_left]
theorem rM.below(h:rM w0 wb sb gN cN gs cS N vo vi I s o w)(hb:Below w.heap.size w w'):rM w0 wb sb gN cN gs cS N vo vi I s o w' where
 row:=(hb.block wb (bN h.row)).trans h.row
 seen:=dR h.seen (fun k hk=>hb.block k (bF h.seen k hk).2)
 order:=dR h.order (fun k hk=>hb.block k (bF h.order k hk).2)
 sN:=(hb.block sb h.sN.lt).trans h.sN
 items:=dR h.items (fun k hk=>hb.block k (bF h.items k hk).2)
 left:=h.left
 needs:=h.needs
 bl:=h.bl.trans (hb.mono h.bl.size)
 Ck:=h.Ck
 slow:=h.slow
theorem rM.pop{x:Nat×List Nat×Value}(h:rM w0 wb sb gN cN gs cS N vo (.slice (some ⟨g,0,none⟩) (I.length+1) cap) (I++[x]) s o w)(hr:za w' sb (.slice (some ⟨g,0,none⟩) I.length cap))(hm:lF (fun k=>k=sb) w w'):rM w0 wb sb gN cN gs cS N vo (.slice (some ⟨g,0,none⟩) I.length cap) I s o w':=by
 have off:∀k,k<w.heap.size->k≠sb->w'.heap[k]?=w.heap[k]?:=fun k hk hn=>hm.block k hk hn
 have hws:wb≠sb:=fun e=>by
  have h1:=h.row;unfold Vv at h1;rw[e,h.sN] at h1;injection h1 with h1;injection h1 with _ h1 _;exact absurd h1 bS
 have hit:w.ownsRow w0.heap.size 212 2 (.slice (some ⟨g,0,none⟩) (I.length+1) cap) (I.length+1) (mr I++mr [x]):=by have:=h.items;rw[aI,vM] at this;exact this
 exact {
  row:=(off wb (bN h.row) hws).trans h.row
  seen:=dR h.seen (fun k hk=>off k (bF h.seen k hk).2 (fun e=>iZ h.sN h.seen bS (by rw[<-e];exact hk)))
  order:=dR h.order (fun k hk=>off k (bF h.order k hk).2 (fun e=>iZ h.sN h.order bS (by rw[<-e];exact hk)))
  sN:=hr
  items:=dR (ZV hit (zx I) (fH _)) (fun k hk=>off k (by have e:g=k:=ax hk;subst e;exact(bF hit g rfl).2) (fun e=>iZ h.sN hit bS (by rw[<-e];exact hk)))
  left:=fun y hy=>h.left y (fD _ hy)
  needs:=h.needs
  bl:=lF.below h.bl h.bl.size hm (fun k hk=>by rw[hk];exact h.slow)
  Ck:=h.Ck
  slow:=h.slow}
theorem rM.aa2{wx w3:ak}(h:rM w0 wb sb gN cN gs cS N vo vi I s o w)(hb:Below w.heap.size w wx)(hg:wx.grownBy w3 vo.ownBlock)(hr:w3.ownsRow w0.heap.size 3 1 (.slice (some ⟨g,0,none⟩) (o.length+1) cap) (o.length+1) (mq o++[.int .i64 (p:Nat)])):rM w0 wb sb gN cN gs cS N (.slice (some ⟨g,0,none⟩) (o.length+1) cap) vi I s (o++[p]) (w3.setCell ⟨wb,2,none⟩ (.slice (some ⟨g,0,none⟩) (o.length+1) cap)):=by
 have hx:=h.below hb
 have TP:∀k,k<wx.heap.size->vo.ownBlock≠some k->w3.heap[k]?=wx.heap[k]?:=fun k hk hn=>hg.block k hk (fun e=>hn e.symm)
 have off:∀k,k<wx.heap.size->vo.ownBlock≠some k->k≠wb->(w3.setCell ⟨wb,2,none⟩ (.slice (some ⟨g,0,none⟩) (o.length+1) cap)).heap[k]?=wx.heap[k]?:=fun k hk hn h2=>(au _ _ _ _ h2).trans (TP k hk hn)
 have hrow3:w3.heap[wb]?=_:=(TP wb (bN hx.row) (iZ hx.row hx.order bS)).trans hx.row
 have hws:sb≠wb:=fun e=>by
  have h1:=h.row;unfold Vv at h1;rw[<-e,h.sN] at h1;injection h1 with h1;injection h1 with _ h1 _;exact absurd h1 bS
 exact {
  row:=by unfold Vv;rw[aR _ _ _ _ _ _ hrow3];rfl
  seen:=dR hx.seen (fun k hk=>off k (bF hx.seen k hk).2 (pF hx.seen hx.order bS hk) (fun e=>iZ hx.row hx.seen bS (by rw[<-e];exact hk)))
  order:=by
   rw[aI,Fh];exact dR hr (fun k hk=>au _ _ _ _ (show k≠wb from fun e=>iZ hrow3 hr bS (by rw[<-e];exact hk)))
  sN:=(off sb hx.sN.lt (iZ hx.sN hx.order bS) hws).trans hx.sN
  items:=dR hx.items (fun k hk=>off k (bF hx.items k hk).2 (pF hx.items hx.order bS hk) (fun e=>iZ hx.row hx.items bS (by rw[<-e];exact hk)))
  left:=h.left
  needs:=h.needs
  bl:=(hx.bl.grown hg hx.bl.size (fun k hk=>(bF hx.order k hk).1)).setCell (p:=⟨wb,2,none⟩) h.Ck _
  Ck:=h.Ck
  slow:=h.slow}
structure ug(w0:ak)(wb gN cN gs cS:Nat)(N:List (List Nat))(vo:Value)(s o:List Nat)(w:ak):Prop where
 row:Vv w wb (.slice (some ⟨gN,0,none⟩) N.length cN) (.slice (some ⟨gs,0,none⟩) N.length cS) vo
 seen:w.ownsRow w0.heap.size 206 1 (.slice (some ⟨gs,0,none⟩) N.length cS) N.length (mq s)
 order:w.ownsRow w0.heap.size 3 1 vo o.length (mq o)
 needs:vH w0 gN N
 bl:Below w0.heap.size w0 w
 Ck:w0.heap.size<=wb
theorem rM.walk(h:rM w0 wb sb gN cN gs cS N vo vi I s o w):ug w0 wb gN cN gs cS N vo s o w:=⟨h.row,h.seen,h.order,h.needs,h.bl,h.Ck⟩
theorem ug.start(h:ug w0 wb gN cN gs cS N vo s o w):rM w0 wb w.heap.size gN cN gs cS N vo (.slice none 0 0) [] s o (w.alloc (.cells #[.slice none 0 0] 209)):=by
 have hb:Below w.heap.size w (w.alloc (.cells #[.slice none 0 0] 209)):=(ay _ _).alloc (ai _) _
 exact {
  row:=(hb.block wb (bN h.row)).trans h.row
  seen:=dR h.seen (fun k hk=>hb.block k (bF h.seen k hk).2)
  order:=dR h.order (fun k hk=>hb.block k (bF h.order k hk).2)
  sN:=bq _ _ _ rfl
  items:=dK _ _ _ _
  left:=fun x hx=>by cases hx
  needs:=h.needs
  bl:=h.bl.trans (hb.mono h.bl.size)
  Ck:=h.Ck
  slow:=h.bl.size}
theorem Ux(b o L cap:Nat)(h:L+1<=cap):∃o',(∀k,k<L->o'+k=o+1+k)/\∀wx,(Instr.slice 48 (.slice (some ⟨b,o,none⟩) (L+1) cap) (some (.int .i64 1)) none none).run Tryz.prog wx=.ok (.slice (some ⟨b,o',none⟩) L (cap-1)) wx:=by
 by_cases hc:cap=1
 ·subst hc
  obtain rfl:L=0:=aJ
  exact⟨o,fun k hk=>aJ,fun wx=>dD⟩
 refine⟨o+1,fun k _=>rfl,fun wx=>?_⟩
 simp[Instr.slice,ny Tryz.underlying48,go_sem,hc]
 intro hh;omega
structure Hf(N:List (List Nat))(R:Bool×List Nat×List Nat)(I:qx)(s o:List Nat)(gk:Nat):Prop where
 fits:rq N (rV I) s
 run:Ci N (rV I) s o=R
 work:kT N (rV I) s<=gk
 few:o.length+kT N (rV I) s<=1000000000000
theorem AY(N:List (List Nat)):∀(s:List Nat) (i p:Nat),fO N (s.set p 1) i<=fO N s i
 |[],_,_=>ai _
 |x::s,i,0=>by
  show(if (1:Nat)=0 then _ else 0)+fO N s (i+1)<=(if x=0 then _ else 0)+fO N s (i+1);rw[aA bS];omega
 |x::s,i,p+1=>by
  have ih:=AY N s (i+1) p;show(if x=0 then _ else 0)+fO N (s.set p 1) (i+1)<=(if x=0 then _ else 0)+fO N s (i+1);omega
theorem UD:∀k:DJ,k.length<=Xo k
 |[]=>ai _
 |x::k=>by have:=UD k;rw[qV,aY];omega
theorem Rh(I:qx):(rV I).length=I.length:=by simp[rV]
theorem Hf.len{R:Bool×List Nat×List Nat}{gk:Nat}(h:Hf N R I s o gk):I.length<=1000000000000/\o.length<=1000000000000:=by
 have h1:=UD (rV I);rw[Rh] at h1;have h2:=h.few;unfold kT at h2;omega
theorem Ph(h:ug w0 wb gN cN gs cS N vo s o w)(hf:rq N [] s)(hp:p<N.length)(hN:N.length<=1000)(hb:o.length+fO N s 0+(N.getD p []).length+10<=1000000000000):
  Calls Tryz.prog 72 #[.pointer (some ⟨wb,0,none⟩),.int .i64 (p:Nat)] w fun e w'=>e=.returned (.bool (gy N p s o).1)/\∃vo',ug w0 wb gN cN gs cS N vo' (gy N p s o).2.1 (gy N p s o).2.2 w':=by
 have c1:w.cell? ⟨wb,1,none⟩=some (.slice (some ⟨gs,0,none⟩) N.length cS):=by rw[aj _ _ _ _ _ _ h.row];rfl
 obtain⟨hsl,cur,hcur,hcx⟩:=CB h.seen
 have cx:w.cell? ⟨gs,p,none⟩=some (.int .i64 (s.getD p 0:Nat)):=by rw[aj _ _ _ _ _ _ hcur];exact hcx p hp
 have H:=aV h;have HF:=aV hf
 have p0:(0:Int)<=(p:Int):=aJ
 have p1:(p:Int)<(N.length:Int):=aJ
 have HV:=h.start;have HSE:=CB HV.seen;clear hcur hcx h hf
 by_cases h2:s.getD p 0=2
 ·have hvs:gy N p s o=(true,s,o):=aH h2;rw[hvs];rw[h2] at cx;clear HV HSE h2 hvs
  go_enter Tryz.func72,Tryz.ntmps72
  go_wp2
  go_step3
  go_wp2
  try rw[Exit.noGoto_ret]
  go_ret;exact⟨rfl,vo,H.out⟩
 have HVS:Hid (gy N p s o=Ci N [(p,N.getD p [])] (s.set p 1) o):=aA h2;obtain⟨R,hR⟩:∃R,R=gy N p s o:=⟨_,rfl⟩;rw[<-hR];obtain⟨Rb,Rs,Ro⟩:=R
 simp only
 have HRR:Hid (Ci N [(p,N.getD p [])] (s.set p 1) o=(Rb,Rs,Ro)):=by rw[hR];exact HVS.out.symm
 have b2:(((s.getD p 0:Nat):Int)==2)=false:=by
  clear cx HRR;generalize s.getD p 0=x at*
  simp;omega
 clear hR HVS;generalize hw1:w.alloc (.cells #[.slice none 0 0] 209)=w1 at*;obtain⟨-,alb,aeQ,aiq⟩:=HSE;obtain⟨av,cv,hav,hint⟩:=HV.need hp;have hne:=HV.ah1 aJ;have HBG:=aV (NN HV.row hp hp hav aeQ (aiq p hp) hne.1 hne.2.1);replace HV:=aV HV;have afj:=aV hint;have HP:=aV (aO hp hsl);have Rn:=aV hb;have HH2:=aV h2;clear aeQ aiq hav hint hne hsl hb h2;generalize hsb:w.heap.size=sb at*;have HSB:=aV hsb;clear hsb;generalize hNL:N.length=NL at*;have CZ:=aV hNL;clear hNL;generalize hPL:(N.getD p []).length=PL at*;have HPL:=aV hPL;clear hPL alb;generalize hsp:s.getD p 0=sp at*;clear hsp cur
 go_enter Tryz.func72,Tryz.ntmps72
 go_wp2
 go_step3
 go_wp2_with fail
 refine HBG.out.mono ?_;rintro e w2 ⟨rfl,hm2,hg2⟩;rw[HSB.out];have HV2:=aV (HV.out.mark (x:=1) hm2 hg2);have HPU:Hid (Calls Tryz.prog 117 #[.pointer (some ⟨sb,0,none⟩),.agg #[.int .i64 (p:Nat),.slice av PL cv]] w2 fun e w'=>e=.returned (.tuple #[])/\∃Xu,za w' sb Xu/\w'.ownsRow w0.heap.size 212 2 Xu (([]:qx).length+1) (mr ([]++[(p,N.getD p [],.slice av PL cv)]))/\lF (fun k=>k=sb\/(Value.slice none 0 0).ownBlock=some k) w2 w'):=Uj p (N.getD p []) _ HV2.out.sN HV2.out.items HV2.out.bl.size (aS _) (afj.out.keep (fun k hk=>HV2.out.bl.block k hk));clear hm2 hg2 HBG HV c1 cx b2 hw1
 go_wp2_with fail
 refine HPU.out.mono ?_;rintro e w3 ⟨rfl,vi3,hr3,ho3,hm3⟩;have HV3:=aV (HV2.out.push afj.out hr3 ho3 hm3)
 have Es:Hid (Hf N (Rb,Rs,Ro) [(p,N.getD p [],.slice av PL cv)] (s.set p 1) o (kT N [(p,N.getD p [])] (s.set p 1))):=by
  have hf:=HF.out
  have hp':p<N.length:=by rw[CZ.out];exact hp
  refine⟨(hf.push hp').set hp' bS,HRR.out,ai _,?_⟩;show o.length+kT N [(p,N.getD p [])] (s.set p 1)<=1000000000000;have h1:fO N (s.set p 1) 0<=fO N s 0:=AY N s 0 p;unfold kT;rw[qV];have h2:Xo []=0:=rfl;have hPL:=HPL.out;have h3:=Rn.out
  simp only
  omega
 clear hr3 ho3 hm3 HPU HV2 afj HRR Rn
 go_wp2_with fail
 go_step3
 go_wp2_with fail
 go_loopg [] (kT N [(p,N.getD p [])] (s.set p 1)) (fun gk wr=>∃vo vi I s o,rM w0 wb sb gN cN gs cS N vo vi I s o wr/\Hf N (Rb,Rs,Ro) I s o gk)
 case atStart=>exact⟨vo,vi3,_,_,o,HV3.out,Es.out⟩
 case round=>
  clear HV3 Es HH2 HPL;obtain⟨vo1,vi,I,s1,o1,hv,Wj⟩:=hrel;have HV:=aV hv;have HU:=aV Wj;obtain⟨kE,DT,MB,hci,hgi⟩:=bE hv.items;have hem:=YX (w:=wr) (sb:=sb) hv.sN ⟨_,_,MB⟩
  rcases tV I with hI|⟨J,x,hI⟩
  ·subst hI;have Yq:=aV hem
   have HFIN:Hid (Rb=true/\ug w0 wb gN cN gs cS N vo1 Rs Ro wr):=by
    have hr:(true,s1,o1)=(Rb,Rs,Ro):=Wj.run;injection hr with e1 hr;injection hr with e2 e3;subst e1 e2 e3;exact⟨rfl,hv.walk⟩
   clear hem hv Wj MB hci hgi HV HU
   go_wp2_with fail
   refine Yq.out.mono ?_;rintro e wx ⟨rfl,hwx⟩;rw[hwx];clear hwx Yq wx
   go_wp2_with fail
   obtain⟨hRb,hWk⟩:=HFIN.out;subst hRb
   try rw[Exit.noGoto_ret]
   go_ret;exact⟨rfl,vo1,hWk⟩
  obtain⟨q,l,v⟩:=x
  have hIL:I.length=J.length+1:=by rw[hI];simp
  obtain⟨GK,hGK⟩:∃G,G=gk:=⟨_,rfl⟩;have Yr:=aV hGK;rw[<-hGK] at HU;clear hGK;obtain⟨g,rfl⟩:=hgi aJ
  have hbn:(((I.length:Nat):Int)==0)=false:=by rw[hIL];simp;omega
  rw[hbn] at hem;have Yq:=aV hem;rw[hIL] at MB hci;subst MB;rw[tQ] at hI;subst hI;have HTP:Hid (Calls Tryz.prog 120 #[.pointer (some ⟨sb,0,none⟩)] wr fun e w'=>e=.returned (.pointer (some ⟨g,J.length*2,none⟩))/\Below wr.heap.size wr w'):=aem hv.sN (by have:=Wj.len.1;simp only[aI,aY,dY] at this;omega);clear hem hv Wj hbn hIL hgi
  go_wp2_with fail
  refine Yq.out.mono ?_;rintro e wx ⟨rfl,hwx⟩;rw[hwx];clear hwx Yq wx
  go_wp2_with fail
  refine HTP.out.mono ?_;rintro e wt ⟨rfl,hbt⟩;have HVT:=aV (HV.out.below hbt);clear hbt HTP HV
  go_wp2_with fail
  go_loopg [] l.length (fun g2 wr=>∃l v,rM w0 wb sb gN cN gs cS N vo1 (.slice (some ⟨g,0,none⟩) (J.length+1) DT) (J++[(q,l,v)]) s1 o1 wr/\Hf N (Rb,Rs,Ro) (J++[(q,l,v)]) s1 o1 GK/\l.length<=g2)
  case atStart=>exact⟨l,v,HVT.out,HU.out,ai _⟩
  case round=>
   clear HVT HU v l;obtain⟨l,v,hv,Wj,hlg⟩:=hrel;have HV:=aV hv;have HU:=aV Wj;have HLG:=aV hlg
   have hit:wr.ownsRow w0.heap.size 212 2 (.slice (some ⟨g,0,none⟩) (J.length+1) DT) (J.length+1) (mr (J++[(q,l,v)])):=by have:=hv.items;rw[aI] at this;exact this
   have hat:(J++[(q,l,v)])[J.length]?=some (q,l,v):=eB
   have k0:=(dV hit (J.length*2) _ (Gz hat).1);have k1:=(dV hit (J.length*2+1) _ (Gz hat).2);have kc0:=k0.1;have kc1:=k1.1;have kf1:=k1.2;simp only at kc0 kc1;have hint:=hv.left (q,l,v) eB;simp only at hint;obtain⟨al,cl,rfl,hcl,hcells⟩:=hint
   have r1:wr.cell? ⟨wb,1,none⟩=some (.slice (some ⟨gs,0,none⟩) NL cS):=by rw[aj _ _ _ _ _ _ hv.row,<-CZ.out];rfl
   have hbl:=hv.bl
   have HNF:Hid (∀n,n<NL->wr.cell? ⟨gs,n,none⟩=some (.int .i64 (s1.getD n 0:Nat))/\wr.frozen? ⟨gs,n,none⟩=false):=fun n hn=>by
    obtain⟨_,cur,hcur,hcx⟩:=CB hv.seen;exact⟨by rw[aj _ _ _ _ _ _ hcur];exact hcx n (by rw[CZ.out];exact hn),aD _ _ _ _ _ hcur⟩
   cases l with
   |nil=>
    have hq:q<NL:=by
     rw[<-CZ.out];exact(Wj.fits.stk (q,[]) (by rw[lu];exact aQ ..)).1
    have q0:(0:Int)<=(q:Int):=aJ
    have q1:(q:Int)<(NL:Int):=aJ
    have sc:=(HNF.out q hq).1;have sf:=(HNF.out q hq).2;have HV5:Hid (rM w0 wb sb gN cN gs cS N vo1 (.slice (some ⟨g,0,none⟩) (J.length+1) DT) (J++[(q,[],.slice al 0 cl)]) (s1.set q 2) o1 (wr.setCell ⟨gs,q,none⟩ (.int .i64 2)).drew):=(HV.out.marked q 2).below ⟨rfl,rfl,rfl,ai _,fun _ _=>rfl⟩;clear hcells Wj hlg hat k0 k1 hit hv hbl
    go_wp2_with fail
    go_region
    clear sc sf r1 kc0 kc1 kf1;generalize (wr.setCell ⟨gs,q,none⟩ (.int .i64 2)).drew=w5 at*;have hv5:=HV5.out
    have aiv:w5.ownsRow w0.heap.size 212 2 (.slice (some ⟨g,0,none⟩) (J.length+1) DT) (J.length+1) (mr (J++[(q,[],.slice al 0 cl)])):=by have:=hv5.items;rw[aI] at this;exact this
    have kc0:=(dV aiv (J.length*2) _ (Gz (show(J++[(q,[],.slice al 0 cl)])[J.length]?=some (q,[],.slice al 0 cl) by simp)).1).1;simp only at kc0;obtain⟨nu,YN,Rx,_,_⟩:=bE hv5.order;have HOL:=aV HU.out.len.2;generalize hol:o1.length=OL at*;have HOE:=aV hol;clear hol;subst Rx
    have c2:w5.cell? ⟨wb,2,none⟩=some (.slice nu OL YN):=by rw[aj _ _ _ _ _ _ hv5.row];rfl
    have c2a:(w5.alloc (.cells #[.int .i64 (q:Nat)] 3)).cell? ⟨wb,2,none⟩=some (.slice nu OL YN):=(aF (w:=w5) (a:=⟨wb,2,none⟩) (bC _ _ wb (bN hv5.row))).trans c2
    have hinf:(Tryz.prog.info? 3).map (fun i=>(i.size,i.bytes,i.zero))=some (1,8,some (.int .i64 0)):=dD
    obtain⟨ti,hti,htj⟩:=bA.1 hinf;simp only[Prod.mk.injEq] at htj;have HTI:=aV (aO hti (aO htj.1 (aO htj.2.1 htj.2.2)));have apA:=HOL.out;clear hinf hti htj hv5 aiv
    go_wp2_with fail
    refine jX dD ?_;change wpAny _ _ _ _ _ _ _ (World.drew _);refine uA 0 (.pointer (some ⟨wb,0,none⟩)) rfl<|uA 1 (.pointer (some ⟨wb,0,none⟩)) rfl<|uA 2 (.pointer (some ⟨wb,0,none⟩)) rfl<|uA 3 (.pointer (some ⟨wb,2,none⟩)) rfl<|uA 5 (.pointer (some ⟨g,J.length*2,none⟩)) rfl<|uA 6 (.pointer (some ⟨g,J.length*2,none⟩)) rfl<|uA 7 (.pointer (some ⟨g,J.length*2,none⟩)) rfl ?_
    refine pA 4 8 rfl rfl (fun K hK=>?KY) fun K hK=>?KZ
    case' KY=>
     go_simp;refine hK _ _ ?_;clear hK K
     refine rA 8 rfl fun K hK=>?_
     go_simp;refine hK _ _ ?_;clear hK K
     refine rA 9 rfl fun K hK=>?_
     go_simp
    case' KZ=>
     go_simp;refine hK _ _ ?_;clear hK K
     refine pA 4 9 rfl rfl (fun K hK=>?QI) fun K hK=>?QJ
     case' QI=>
      go_simp;refine hK _ _ ?_;clear hK K
      refine rA 9 rfl fun K hK=>?_
      go_simp
     case' QJ=>
      go_simp;refine hK _ _ ?_;clear hK K
      refine rA 4 rfl fun K hK=>?_
      go_simp
    all_goals
     refine hK _ _ ?_;clear hK K;obtain⟨W8,Gr⟩:∃W8,W8=(w5.alloc (.cells #[.int .i64 (q:Nat)] 3)).drew:=⟨_,rfl⟩
     have Bd:Hid (Below w5.heap.size w5 W8):=by rw[Gr];exact((ay _ _).alloc (ai _) _).drew
     have HN8:Hid (∀j u,([.int .i64 (q:Nat)]:List Value)[j]?=some u->W8.cell? ((⟨w5.heap.size,0,none⟩:Addr).add j)=some u):=by rw[Gr];exact iM w5 _ _
     rw[<-Gr];clear Gr c2a
     have HD8:Hid (W8.ownsRow w0.heap.size 3 1 (.slice nu OL YN) OL (mq o1)):=by
      have h:=(HV5.out.below Bd.out).order;rw[HOE.out] at h;exact h
     have hB8:w0.heap.size<=W8.heap.size:=aC HV5.out.bl.size Bd.out.size
     refine rA 10 rfl fun K hK=>?_
     refine step_append_lies _ rfl (.tmp 71) (.tmp 76) 48 rfl w0.heap.size 3 ti (.int .i64 0) 1 8 Tryz.underlying48 HTI.out.1 HTI.out.2.2.2 HTI.out.2.1 HTI.out.2.2.1 rfl bS _ OL (mq o1) rfl HD8.out ⟨w5.heap.size,0,none⟩ 1 1 [.int .i64 (q:Nat)] rfl rfl HN8.out (by intro u hu;simp only[bg,dH,kz] at hu;rcases hu with rfl;rfl) bS (by unfold maxLen;omega) aJ hB8 _ rfl ?_;intro g6 cap6 w6 hv6 hg6 hat6 hlt6;have h8:=HV5.out.below Bd.out;have hrow6:=(hg6.block wb (bN h8.row) (fun e=>iZ h8.row h8.order bS e.symm)).trans h8.row
     have d6:w6.cell? ⟨wb,2,none⟩=some (.slice nu OL YN):=by rw[aj _ _ _ _ _ _ hrow6];rfl
     have f6:w6.frozen? ⟨wb,2,none⟩=false:=aD _ _ _ _ _ hrow6
     have HV6:Hid (rM w0 wb sb gN cN gs cS N (.slice (some ⟨g6,0,none⟩) (OL+1) cap6) (.slice (some ⟨g,0,none⟩) (J.length+1) DT) (J++[(q,[],.slice al 0 cl)]) (s1.set q 2) (o1++[q]) (w6.setCell ⟨wb,2,none⟩ (.slice (some ⟨g6,0,none⟩) (OL+1) cap6))):=by
      have e:=HOE.out;subst e;exact HV5.out.aa2 Bd.out hg6 hv6
     clear hv6 hg6 hat6 hlt6 hrow6 h8;refine hK _ _ ?_;clear hK K;refine uA 11 (.pointer (some ⟨wb,0,none⟩)) rfl<|uA 12 (.pointer (some ⟨wb,2,none⟩)) rfl ?_
     refine rA 13 rfl fun K hK=>?_
     go_simp;refine hK _ _ ?_;clear hK K;refine yR dD ?_ _;clear d6 f6;generalize w6.setCell ⟨wb,2,none⟩ (.slice (some ⟨g6,0,none⟩) (OL+1) cap6)=w7 at*;have HPO:Hid (Calls Tryz.prog 121 #[.pointer (some ⟨sb,0,none⟩)] w7 fun e w'=>e=.returned (.tuple #[])/\za w' sb (.slice (some ⟨g,0,none⟩) J.length DT)/\lF (fun k=>k=sb) w7 w'):=ad6 HV6.out.sN (by have:=HU.out.len.1;simp only[aI,aY,dY] at this;omega) hci
     go_wp2_with fail
     refine HPO.out.mono ?_;rintro e w9 ⟨rfl,hr9,hm9⟩;have HV9:=aV (HV6.out.pop hr9 hm9)
     have HU9:Hid (Hf N (Rb,Rs,Ro) J (s1.set q 2) (o1++[q]) (kT N (rV J) (s1.set q 2))/\kT N (rV J) (s1.set q 2)<GK):=by
      have hu:=HU.out;have hfi:=hu.fits;have hrn:=hu.run;have hwk:=hu.work;have hfw:=hu.few;rw[lu] at hfi hrn hwk hfw;have hw:=Aa N q (rV J) s1;refine⟨⟨hfi.pop.set (by rw[CZ.out];exact hq) bS,(aan hfi).symm.trans hrn,ai _,?_⟩,aJ⟩;rw[aI];simp only[aY,dY];omega
     clear hr9 hm9 HPO HV6
     go_wp2_with fail
     go_roundg (kT N (rV J) (s1.set q 2))
     case measure=>rw[<-Yr.out];exact HU9.out.2
     case rel=>exact⟨_,_,_,_,_,HV9.out,HU9.out.1⟩
   |cons n l2=>
    obtain⟨Vz,o2,rfl,hcs⟩:∃b o,al=some ⟨b,o,none⟩/\∀k x,(n::l2)[k]?=some x->w0.cell? ⟨b,o+k,none⟩=some (.int .i64 (x:Nat)):=by
     rcases hcells with h|h
     ·cases h
     exact h
    have cn:wr.cell? ⟨Vz,o2,none⟩=some (.int .i64 (n:Nat)):=by
     have:=hcs 0 n rfl;exact(hbl.cell (p:=⟨Vz,o2,none⟩) (aG this)).trans this
    simp only[aY] at kc1 hcl;obtain⟨o3,ho3,hsl⟩:=Ux Vz o2 l2.length cl hcl
    have HI2:Hid (sw w0 (.slice (some ⟨Vz,o3,none⟩) l2.length (cl-1)) l2):=⟨_,_,rfl,aJ,aP ⟨Vz,o3,rfl,fun k x hx=>by
     have hk:=ho3 k (aN.1 hx).1;have:=hcs (k+1) x hx;rw[show o2+(k+1)=o3+k by omega] at this
     exact this⟩⟩
    have HV9:=aV (HV.out.aeg HI2.out);have hmem:=Wj.fits.stk (q,n::l2) (by rw[lu];exact aQ ..)
    have hn1:n<NL:=by rw[<-CZ.out];exact hmem.2 n (aQ ..)
    have n0:(0:Int)<=(n:Int):=aJ
    have n1:(n:Int)<(NL:Int):=aJ
    have hv9:=HV9.out
    have r9:(wr.setCell ⟨g,J.length*2+1,none⟩ (.slice (some ⟨Vz,o3,none⟩) l2.length (cl-1))).cell? ⟨wb,1,none⟩=some (.slice (some ⟨gs,0,none⟩) NL cS):=by rw[aj _ _ _ _ _ _ hv9.row,<-CZ.out];rfl
    obtain⟨-,alc,abm,af2⟩:=CB hv9.seen
    have s9:(wr.setCell ⟨g,J.length*2+1,none⟩ (.slice (some ⟨Vz,o3,none⟩) l2.length (cl-1))).cell? ⟨gs,n,none⟩=some (.int .i64 (s1.getD n 0:Nat)):=by rw[aj _ _ _ _ _ _ abm];exact af2 n (by rw[CZ.out];exact hn1)
    have HBG:Hid (∃av cv,sw w0 (.slice av (N.getD n []).length cv) (N.getD n [])/\Calls Tryz.prog 118 #[.pointer (some ⟨wb,0,none⟩),.int .i64 (n:Nat)] (wr.setCell ⟨g,J.length*2+1,none⟩ (.slice (some ⟨Vz,o3,none⟩) l2.length (cl-1))) fun e w'=>e=.returned (.agg #[.int .i64 (n:Nat),.slice av (N.getD n []).length cv])/\lF (fun k=>k=gs) (wr.setCell ⟨g,J.length*2+1,none⟩ (.slice (some ⟨Vz,o3,none⟩) l2.length (cl-1))) w'/\w'.heap[gs]?=((wr.setCell ⟨g,J.length*2+1,none⟩ (.slice (some ⟨Vz,o3,none⟩) l2.length (cl-1))).setCell ⟨gs,n,none⟩ (.int .i64 1)).heap[gs]?):=by
     have hnN:n<N.length:=by rw[CZ.out];exact hn1
     obtain⟨av,cv,hav,hint⟩:=hv9.need hnN;have hne:=hv9.ah1 aJ;exact⟨av,cv,hint,NN hv9.row hnN hnN hav abm (af2 n hnN) hne.1 hne.2.1⟩
    have HN1:=aV hn1;clear hcells hcs Wj hlg hat k0 k1 hit hv hbl hv9 abm af2 hmem ho3 alc
    have hlz:(0:Int)<(l2.length:Int)+1:=aJ
    generalize hL2:l2.length=L2 at*;have HL2:=aV hL2;clear hL2;generalize hx1:s1.getD n 0=x1 at*;have HX1:=aV hx1
    have hx3:x1<=2:=by rw[<-hx1];exact HU.out.fits.three n
    clear hx1
    by_cases e1:x1=1
    ·subst e1
     have HFIN:Hid (Rb=false/\ug w0 wb gN cN gs cS N vo1 Rs Ro (wr.setCell ⟨g,J.length*2+1,none⟩ (.slice (some ⟨Vz,o3,none⟩) L2 (cl-1)))):=by
      have hr:=HU.out.run;rw[lu,UW HX1.out] at hr;injection hr with e1 hr;injection hr with e2 e3;subst e1 e2 e3;exact⟨rfl,HV9.out.walk⟩
     clear HBG HV9 HU HV
     go_wp2_with fail
     obtain⟨hRb,hWk⟩:=HFIN.out;subst hRb
     try rw[Exit.noGoto_ret]
     go_ret;exact⟨rfl,vo1,hWk⟩
    have b1:(((x1:Nat):Int)==1)=false:=by simp;omega
    by_cases e2:x1=2
    ·subst e2
     have HU9:Hid (Hf N (Rb,Rs,Ro) (J++[(q,l2,.slice (some ⟨Vz,o3,none⟩) L2 (cl-1))]) s1 o1 GK):=by
      have hu:=HU.out;have hfi:=hu.fits;have hrn:=hu.run;have hwk:=hu.work;have hfw:=hu.few;rw[lu] at hfi hrn hwk hfw;have hw:=xO N q n l2 (rV J) s1;refine⟨by rw[lu];exact hfi.skip,by rw[lu];exact(Xy hfi HX1.out).symm.trans hrn,by rw[lu];omega,by rw[lu];omega⟩
     clear HBG HU HV
     go_wp2_with fail
     go_roundg L2
     case measure=>
      have h1:=HLG.out;have h2:=HL2.out;simp only[aY] at h1;omega
     case rel=>exact⟨l2,_,HV9.out,HU9.out,dG HL2.out⟩
    obtain rfl:x1=0:=aJ
    obtain⟨av9,cv9,aeS,aid⟩:=HBG.out;have ag9:=aV aid;have HI9:=aV aeS;clear aeS aid HBG;generalize hPN:(N.getD n []).length=PN at*;clear hPN
    go_wp2_with fail
    refine ag9.out.mono ?_;rintro e yu ⟨rfl,aiz,ais⟩;have Yv:=aV (HV9.out.mark (x:=1) aiz ais);have HPU:Hid (Calls Tryz.prog 117 #[.pointer (some ⟨sb,0,none⟩),.agg #[.int .i64 (n:Nat),.slice av9 PN cv9]] yu fun e w'=>e=.returned (.tuple #[])/\∃Xu,za w' sb Xu/\w'.ownsRow w0.heap.size 212 2 Xu ((J++[(q,l2,Value.slice (some ⟨Vz,o3,none⟩) L2 (cl-1))]).length+1) (mr ((J++[(q,l2,.slice (some ⟨Vz,o3,none⟩) L2 (cl-1))])++[(n,N.getD n [],.slice av9 PN cv9)]))/\lF (fun k=>k=sb\/(Value.slice (some ⟨g,0,none⟩) (J.length+1) DT).ownBlock=some k) yu w'):=Uj n (N.getD n []) _ Yv.out.sN Yv.out.items Yv.out.bl.size (by have:=HU.out.len.1;simp only[aI,aY,dY] at this⊢;omega) (HI9.out.keep (fun k hk=>Yv.out.bl.block k hk))
    have ahO:Hid (Hf N (Rb,Rs,Ro) ((J++[(q,l2,.slice (some ⟨Vz,o3,none⟩) L2 (cl-1))])++[(n,N.getD n [],.slice av9 PN cv9)]) (s1.set n 1) o1 (kT N ((n,N.getD n [])::(q,l2)::rV J) (s1.set n 1))/\kT N ((n,N.getD n [])::(q,l2)::rV J) (s1.set n 1)<GK):=by
     have hu:=HU.out;have hfi:=hu.fits;have hrn:=hu.run;have hwk:=hu.work;have hfw:=hu.few;rw[lu] at hfi hrn hwk hfw
     have hnN:n<N.length:=by rw[CZ.out];exact HN1.out
     have hw:=xM N q n l2 (rV J) s1 (by rw[hfi.len];exact hnN) HX1.out
     have hst:∀v v',rV ((J++[(q,l2,v)])++[(n,N.getD n [],v')])=(n,N.getD n [])::(q,l2)::rV J:=fun v v'=>by rw[lu,lu]
     refine⟨⟨by rw[hst];exact(hfi.skip.push hnN).set hnN bS,by rw[hst];exact(Xx hfi HX1.out).symm.trans hrn,by rw[hst];exact ai _,by rw[hst];omega⟩,aJ⟩
    clear aiz ais ag9 HV9 HV HU
    go_wp2_with fail
    refine HPU.out.mono ?_;rintro e Jc ⟨rfl,apV,aiI,aiG,aiA⟩;have akU:=aV (Yv.out.push HI9.out aiI aiG aiA);clear aiI aiG aiA HPU Yv
    go_wp2_with fail
    go_roundg (kT N ((n,N.getD n [])::(q,l2)::rV J) (s1.set n 1))
    case measure=>rw[<-Yr.out];exact ahO.out.2
    case rel=>exact⟨_,_,_,_,_,akU.out,ahO.out.1⟩
theorem Zz(n:Nat):(madeCells (Value.int .i64 0).cells (n*1)).toList=mq (jT n):=by
 have h1:(Value.int .i64 0).cells=#[.int .i64 0]:=rfl;rw[h1,PG];unfold madeCells jT mq;refine List.ext_getElem eB (fun i h1 h2=>?_)
 simp[Nat.mod_one]
theorem Ii(hN:vH w gN N)(hl:N.length<=1000):
  Calls Tryz.prog 71 #[.slice (some ⟨gN,0,none⟩) N.length cN] w fun e w'=>∃wb gs,e=.returned (.pointer (some ⟨wb,0,none⟩))/\ug w wb gN cN gs N.length N (.slice none 0 0) (jT N.length) [] w':=by
 have hinf:(Tryz.prog.info? 206).map (fun i=>(i.size,i.bytes,i.zero))=some (1,8,some (.int .i64 0)):=dD
 obtain⟨ti,hti,htj⟩:=bA.1 hinf;simp only[Prod.mk.injEq] at htj;obtain⟨w2,hmk,ho,hg⟩:=run_makeSlice_full (P:=Tryz.prog) w w.heap.size 146 206 ti (.int .i64 0) 1 Tryz.underlying146 hti htj.2.2 htj.1 .i64 .i64 N.length aJ (by rw[htj.2.1];omega) (by unfold maxLen;omega) (ai _);have hb2:Below w.heap.size w w2:=⟨hg.os,hg.tape,hg.output,hg.size,fun k hk=>hg.block k hk eB⟩;rw[Zz] at ho
 have HW:Hid (ug w w2.heap.size gN cN w.heap.size N.length N (.slice none 0 0) (jT N.length) [] (w2.alloc (.cells #[.slice (some ⟨gN,0,none⟩) N.length cN,.slice (some ⟨w.heap.size,0,none⟩) N.length N.length,.slice none 0 0] 148))):=by
  refine⟨bq _ _ _ rfl,dR ho (fun k hk=>bC _ _ k (bF ho k hk).2),dK _ _ _ _,hN,hb2.alloc hb2.size _,hb2.size⟩
 clear hinf hti htj ho hg hb2 hN;generalize hn:N.length=n at*
 have n0:(0:Int)<=(n:Int):=aJ
 go_enter Tryz.func71,Tryz.ntmps71
 go_wp2
 go_ret;exact⟨_,_,rfl,HW.out⟩
theorem Ep(N:List (List Nat))(hN:∀i,(N.getD i []).length<=30000):∀(s:List Nat) (i:Nat),fO N s i<=s.length*30002
 |[],_=>aS _
 |x::s,i=>by
  have ih:=Ep N hN s (i+1);have h:=hN i;show(if x=0 then _ else 0)+fO N s (i+1)<=(s.length+1)*30002
  split<;>omega
theorem yO(N:List (List Nat)):∀(f:Nat) (k:DJ) (s o:List Nat),rq N k s->(oD N f k s o).2.2.length+fO N (oD N f k s o).2.1 0<=o.length+kT N k s/\rq N [] (oD N f k s o).2.1
 |0,k,s,o,hf=>⟨by show o.length+fO N s 0<=_;unfold kT;omega,⟨hf.len,hf.three,fun x hx=>by(cases hx),hf.needs⟩⟩
 |_+1,[],s,o,hf=>⟨by show o.length+fO N s 0<=_;unfold kT;omega,hf⟩
 |f+1,(p,[])::k,s,o,hf=>by
  have hp:=(hf.stk (p,[]) (aQ ..)).1;have hw:=Aa N p k s;have ih:=yO N f k (s.set p 2) (o++[p]) (hf.pop.set hp bS);refine⟨aC ih.1 ?_,ih.2⟩;rw[aI];simp only[aY,dY];omega
 |f+1,(p,n::l)::k,s,o,hf=>by
  have hn:=(hf.stk (p,n::l) (aQ ..)).2 n (aQ ..);show(if s.getD n 0=1 then (false,s,o) else if s.getD n 0=2 then oD N f ((p,l)::k) s o else oD N f ((n,N.getD n [])::(p,l)::k) (s.set n 1) o).2.2.length+fO N (if s.getD n 0=1 then (false,s,o) else if s.getD n 0=2 then oD N f ((p,l)::k) s o else oD N f ((n,N.getD n [])::(p,l)::k) (s.set n 1) o).2.1 0<=_/\rq N [] (if s.getD n 0=1 then (false,s,o) else if s.getD n 0=2 then oD N f ((p,l)::k) s o else oD N f ((n,N.getD n [])::(p,l)::k) (s.set n 1) o).2.1
  by_cases a:s.getD n 0=1
  ·rw[aH a];exact⟨by show o.length+fO N s 0<=_;unfold kT;omega,⟨hf.len,hf.three,fun x hx=>by(cases hx),hf.needs⟩⟩
  rw[aA a]
  by_cases b:s.getD n 0=2
  ·rw[aH b];have hw:=xO N p n l k s;have ih:=yO N f _ s o hf.skip;exact⟨aJ,ih.2⟩
  rw[aA b]
  have h0:s.getD n 0=0:=by have:=hf.three n;omega
  have hw:=xM N p n l k s (by rw[hf.len];exact hn) h0;have ih:=yO N f _ (s.set n 1) o ((hf.skip.push hn).set hn bS);exact⟨aJ,ih.2⟩
theorem Iw(hf:rq N [] s)(hp:p<N.length):(gy N p s o).2.2.length+fO N (gy N p s o).2.1 0<=o.length+fO N s 0+(N.getD p []).length+1/\rq N [] (gy N p s o).2.1:=by
 unfold gy
 by_cases h:s.getD p 0=2
 ·rw[aH h];exact⟨by show o.length+fO N s 0<=_;omega,hf⟩
 rw[aA h];have:=yO N (kT N [(p,N.getD p [])] (s.set p 1)+1) [(p,N.getD p [])] (s.set p 1) o ((hf.push hp).set hp bS);refine⟨aC this.1 ?_,this.2⟩;have h1:=AY N s 0 p;unfold kT;rw[qV];have h2:Xo []=0:=rfl
 simp only
 omega
theorem Kk(hN:∀i,∀n∈N.getD i [],n<N.length):rq N [] (jT N.length) where
 len:=by simp[jT]
 three:=fun i=>by
  unfold jT;rw[dx,IJ]
  split<;>simp
 stk:=fun x hx=>by cases hx
 needs:=hN
theorem Ut(hN:vH w gN N)(hl:N.length<=1000)(hs:∀i,∀n∈N.getD i [],n<N.length)(h3:∀i,(N.getD i []).length<=30000):
  Calls Tryz.prog 69 #[.slice (some ⟨gN,0,none⟩) N.length cN] w fun e w'=>e=.returned (.bool (zU N (List.range N.length) (jT N.length) []))/\Below w.heap.size w w':=by
 have Ev:Hid (Calls Tryz.prog 71 #[.slice (some ⟨gN,0,none⟩) N.length cN] w fun e w'=>∃wb gs,e=.returned (.pointer (some ⟨wb,0,none⟩))/\ug w wb gN cN gs N.length N (.slice none 0 0) (jT N.length) [] w'):=Ii hN hl;obtain⟨R,hR⟩:∃R,R=zU N (List.range N.length) (jT N.length) []:=⟨_,rfl⟩;rw[<-hR];have HR:=aV hR.symm;have H3:=aV h3;have HF:Hid (rq N [] (jT N.length)/\N.length<=1000):=⟨Kk hs,hl⟩
 have HZ:Hid (fO N (jT N.length) 0<=1000*30002):=by
  have:=Ep N h3 (jT N.length) 0;simp only[jT,List.length_replicate] at this⊢;show _<=_;omega
 clear hR hN hs h3;generalize hNL:N.length=NL at*;have CZ:=aV hNL;clear hNL
 have n1:(NL:Int)<=1000:=aJ
 go_enter Tryz.func69,Tryz.ntmps69
 go_wp2_with fail
 refine Ev.out.mono ?_;rintro e w1 ⟨wb,gs,rfl,hwk⟩;have HWK:=aV hwk;clear hwk Ev
 go_wp2_with fail
 go_loopw [9] (fun i wr=>∃(j:Nat) (vo:Value) (s o:List Nat),i=.int .i64 j/\j<=NL/\ug w wb gN cN gs NL N vo s o wr/\rq N [] s/\zU N ((List.range NL).drop j) s o=R/\o.length+fO N s 0<=1000*30002+j*30001) (fun i _=>NL-(intOf i).toNat)
 case atStart=>exact⟨0,_,_,[],rfl,aS _,HWK.out,HF.out.1,HR.out,by have:=HZ.out;simp only[dY];omega⟩
 case round=>
  obtain⟨j,vo,s,o,rfl,hj,hwk,hfi,hrun,hbd⟩:=hrel;clear HWK;have HWK:=aV hwk;have HJ:=aV (aO hfi (aO hrun hbd));clear hfi hrun hbd
  have j0:(0:Int)<=(j:Int):=aJ
  by_cases hlt:j<NL
  ·have j1:(j:Int)<(NL:Int):=aJ
   have HVI:Hid (Calls Tryz.prog 72 #[.pointer (some ⟨wb,0,none⟩),.int .i64 (j:Nat)] wr fun e w'=>e=.returned (.bool (gy N j s o).1)/\∃vo',ug w wb gN cN gs NL N vo' (gy N j s o).2.1 (gy N j s o).2.2 w'):=Ph (by have:=hwk;rw[<-CZ.out] at this⊢;exact this) HJ.out.1 (by rw[CZ.out];exact hlt) (by rw[CZ.out];exact HF.out.2) (by have:=HJ.out.2.2;have:=H3.out j;omega);have hvb:=Iw (o:=o) HJ.out.1 (show j<N.length by rw[CZ.out];exact hlt)
   have hdr:zU N ((List.range NL).drop j) s o=if (gy N j s o).1=true then zU N ((List.range NL).drop (j+1)) (gy N j s o).2.1 (gy N j s o).2.2 else false:=by
    rw[fG (by simpa using hlt),List.getElem_range];rfl
   have HVB:Hid ((gy N j s o).2.2.length+fO N (gy N j s o).2.1 0<=1000*30002+(j+1)*30001/\rq N [] (gy N j s o).2.1):=⟨by have:=HJ.out.2.2;have:=H3.out j;have:=hvb.1;omega,hvb.2⟩;have HDR:Hid ((if (gy N j s o).1=true then zU N ((List.range NL).drop (j+1)) (gy N j s o).2.1 (gy N j s o).2.2 else false)=R):=hdr.symm.trans HJ.out.2.1;clear hvb hdr hwk;generalize gy N j s o=V at*;obtain⟨vb,vs,vo2⟩:=V;simp only at HVI HVB HDR
   go_wp2_with fail
   refine HVI.out.mono ?_;rintro e w2 ⟨rfl,vo3,abB⟩;have HW3:=aV abB;clear abB HVI
   cases vb with
   |false=>
    have hRf:false=R:=HDR.out;subst hRf;clear HDR HR
    go_wp2
    go_ret;exact⟨rfl,HW3.out.bl⟩
   |true=>
    go_wp2
    go_roundw
    case rel=>
     first
      |exact⟨j+1,vo3,vs,vo2,oW,aJ,HW3.out,HVB.out.2,HDR.out,HVB.out.1⟩
      | ((repeat apply Exists.intro);exact⟨⟨j+1,vo3,vs,vo2,oW,aJ,HW3.out,HVB.out.2,HDR.out,HVB.out.1⟩,rfl⟩)
    case measure=>simp[intOf];omega
  obtain rfl:j=NL:=aJ
  have hRt:true=R:=by have:=HJ.out.2.1;rw[yY eB] at this;exact this
  subst hRt;clear HR
  go_wp2
  go_ret;exact⟨rfl,HWK.out.bl⟩
end
end Go.Proofs.YthhbpebihgjpjaaGreatDoor
