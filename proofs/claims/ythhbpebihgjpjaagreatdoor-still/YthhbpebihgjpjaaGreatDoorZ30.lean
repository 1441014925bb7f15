import Derived.Test.YthhbpebihgjpjaaGreatDoorZ20
namespace Go.Proofs.YthhbpebihgjpjaaGreatDoor
set_option maxRecDepth 1000000
set_option maxHeartbeats 20000000
set_option linter.all false
section
open Go.RowKit
variable {w:aj}{k B n:Nat}{e:TypeId}{v:Value}{xs:List Value}
theorem iV{cs:Array Value}{t:TypeId}{fr:Nat×Nat}(h:w.heap[k]?=some (.cells cs t fr)){s:Nat}(ho:w.ownsRow B e s v n xs)(he:e≠t):v.ownBlock≠some k:=by
 intro hk;obtain⟨h1,⟨rfl,h0⟩|⟨g,cap,cur,rfl,hg,hh,r⟩⟩:=ho
 ·cases hk
 have e1:g=k:=ak hk;subst e1;rw[hh] at h;injection h with h;injection h with _ h _;exact he h
theorem pz{B':Nat}{e':TypeId}{s s':Nat}{v':Value}{n':Nat}{xs':List Value}(h:w.ownsRow B e s v n xs)(h':w.ownsRow B' e' s' v' n' xs')(he:e≠e')(hk:v.ownBlock=some k):v'.ownBlock≠some k:=by
 obtain⟨h1,⟨rfl,h0⟩|⟨g,cap,cur,rfl,hg,hh,r⟩⟩:=h
 ·cases hk
 have e1:g=k:=ak hk;subst e1;exact iV hh h' (fun e=>he e.symm)
def rR(I:qp):DI:=(I.map fun x=>(x.1,x.2.1)).reverse
theorem kY(I:qp)(p:Nat)(l:List Nat)(v:Value):rR (I++[(p,l,v)])=(p,l)::rR I:=by simp[rR]
def vF(w:aj)(gN:Nat)(N:List (List Nat)):Prop:=∀i l,N[i]?=some l->∃v,w.cell? ⟨gN,i,none⟩=some v/\rZ w v l
structure rF(w0:aj)(wb sb gN cN gs cS:Nat)(N:List (List Nat))(vo vi:Value)(I:qp)(s o:List Nat)(w:aj):Prop where
 row:Vu w wb (.slice (some ⟨gN,0,none⟩) N.length cN) (.slice (some ⟨gs,0,none⟩) N.length cS) vo
 seen:w.ownsRow w0.heap.size 206 1 (.slice (some ⟨gs,0,none⟩) N.length cS) N.length (lZ s)
 order:w.ownsRow w0.heap.size 3 1 vo o.length (lZ o)
 sJ:yY w sb vi
 items:w.ownsRow w0.heap.size 212 2 vi I.length (mg I)
 left:∀x∈I,rZ w0 x.2.2 x.2.1
 needs:vF w0 gN N
 bl:Below w0.heap.size w0 w
 Ci:w0.heap.size<=wb
 slow:w0.heap.size<=sb
variable {gs cS:Nat}{s:List Nat}
theorem Cy(h:w.ownsRow B 206 1 (.slice (some ⟨gs,0,none⟩) n cS) n (lZ s)):s.length=n/\∃cur,w.heap[gs]?=some (.cells cur 206 (0,0))/\∀i,i<n->cur[i]?=some (.int .i64 (s.getD i 0:Nat)):=by
 obtain⟨h1,⟨e,h0⟩|⟨g',cap',cur,e,hg,hh,hn,hm,hs,ht⟩⟩:=h
 ·cases e
 injection e with e1 e2 e3;injection e1 with e1;injection e1 with e1 _ _;subst e1;rw[QE,Pz] at h1;refine⟨h1,cur,hh,fun i hi=>?_⟩
 have hx:(lZ s)[i]?=some (.int .i64 (s.getD i 0:Nat)):=by
  refine TG ?_;rw[cZ,eP (by omega)];rfl
 rw[<-ht,xL] at hx
 split at hx
 ·rw[<-bV];exact hx
 cases hx
variable {w0:aj}{wb sb gN cN:Nat}{N:List (List Nat)}{vo vi:Value}{I:qp}{o:List Nat}
theorem rF.need(h:rF w0 wb sb gN cN gs cS N vo vi I s o w){i:Nat}(hi:i<N.length):∃av cv,w.cell? ⟨gN,i,none⟩=some (.slice av (N.getD i []).length cv)/\rZ w0 (.slice av (N.getD i []).length cv) (N.getD i []):=by
 have hg:N[i]?=some (N.getD i []):=by rw[cZ,eP hi];rfl
 obtain⟨v,hc,hv⟩:=h.needs i _ hg;obtain⟨ao,cap,e,hcap,hr⟩:=id hv;subst e;exact⟨ao,cap,(h.bl.cell (p:=⟨gN,i,none⟩) (aC hc)).trans hc,hv⟩
theorem rF.ahY(h:rF w0 wb sb gN cN gs cS N vo vi I s o w)(hp:0<N.length):gs≠wb/\gs≠gN/\gs≠sb:=by
 refine⟨fun e=>iV h.row h.seen (by decide) (by rw[<-e];rfl),fun e=>?_,fun e=>iV h.sJ h.seen (by decide) (by rw[<-e];rfl)⟩;obtain⟨v,hc,_⟩:=h.needs 0 N[0] (by simp);have h1:=(bA h.seen gs rfl).1;have h2:=aC hc;simp only at h2;omega
variable {w':aj}{p:Nat}
theorem rF.mark(h:rF w0 wb sb gN cN gs cS N vo vi I s o w){x:Nat}(hm:lm (fun k=>k=gs) w w')(hg:w'.heap[gs]?=(w.setCell ⟨gs,p,none⟩ (.int .i64 (x:Nat))).heap[gs]?):rF w0 wb sb gN cN gs cS N vo vi I (s.set p x) o w':=by
 have off:∀k,k<w.heap.size->k≠gs->w'.heap[k]?=w.heap[k]?:=fun k hk hn=>hm.block k hk hn
 have hgl:=(bA h.seen gs rfl)
 have hsn:gs≠sb:=fun e=>iV h.sJ h.seen (by decide) (by rw[<-e];rfl)
 have hwn:gs≠wb:=fun e=>iV h.row h.seen (by decide) (by rw[<-e];rfl)
 exact {
  row:=(off wb (bI h.row) (fun e=>hwn e.symm)).trans h.row
  seen:=by
   have hr:=FB h.seen p (.int .i64 (x:Nat));rw[<-ZE] at hr;exact dL hr (fun k hk=>by have e:gs=k:=ak hk;subst e;exact hg)
  order:=dL h.order (fun k hk=>off k (bA h.order k hk).2 (fun e=>pz h.order h.seen (by decide) hk (by rw[e];rfl)))
  sJ:=(off sb h.sJ.lt (fun e=>hsn e.symm)).trans h.sJ
  items:=dL h.items (fun k hk=>off k (bA h.items k hk).2 (fun e=>pz h.items h.seen (by decide) hk (by rw[e];rfl)))
  left:=h.left
  needs:=h.needs
  bl:=lm.below h.bl h.bl.size hm (fun k hk=>by rw[hk];exact hgl.1)
  Ci:=h.Ci
  slow:=h.slow}
theorem rF.marked(h:rF w0 wb sb gN cN gs cS N vo vi I s o w)(p x:Nat):rF w0 wb sb gN cN gs cS N vo vi I (s.set p x) o (w.setCell ⟨gs,p,none⟩ (.int .i64 (x:Nat))):=
 h.mark ⟨rfl,rfl,rfl,by simp,fun k hk hn=>iP hn⟩ rfl
variable {l:List Nat}
theorem rF.push{Xt:Value}(h:rF w0 wb sb gN cN gs cS N vo vi I s o w)(hv:rZ w0 v l)(hr:yY w' sb Xt)(ho:w'.ownsRow w0.heap.size 212 2 Xt (I.length+1) (mg (I++[(p,l,v)])))(hm:lm (fun k=>k=sb\/vi.ownBlock=some k) w w'):rF w0 wb sb gN cN gs cS N vo Xt (I++[(p,l,v)]) s o w':=by
 have off:∀k,k<w.heap.size->k≠sb->vi.ownBlock≠some k->w'.heap[k]?=w.heap[k]?:=fun k hk hn h2=>hm.block k hk (fun q=>q.elim hn h2)
 have hws:wb≠sb:=fun e=>by
  have h1:=h.row;unfold Vu at h1;rw[e,h.sJ] at h1;injection h1 with h1;injection h1 with _ h1 _;exact absurd h1 (by decide)
 exact {
  row:=(off wb (bI h.row) hws (iV h.row h.items (by decide))).trans h.row
  seen:=dL h.seen (fun k hk=>off k (bA h.seen k hk).2 (fun e=>iV h.sJ h.seen (by decide) (by rw[<-e];exact hk)) (pz h.seen h.items (by decide) hk))
  order:=dL h.order (fun k hk=>off k (bA h.order k hk).2 (fun e=>iV h.sJ h.order (by decide) (by rw[<-e];exact hk)) (pz h.order h.items (by decide) hk))
  sJ:=hr
  items:=by rw[aF];exact ho
  left:=fun x hx=>by
   rcases bK.1 hx with hx|hx
   ·exact h.left x hx
   obtain rfl:=bg.1 hx;exact hv
  needs:=h.needs
  bl:=lm.below h.bl h.bl.size hm (fun k hk=>by
   rcases hk with hk|hk
   ·rw[hk];exact h.slow
   exact(bA h.items k hk).1)
  Ci:=h.Ci
  slow:=h.slow}
theorem WR(I:qp)(p:Nat)(l:List Nat)(v v2:Value)(l2:List Nat):(mg (I++[(p,l,v)])).set (I.length*2+1) v2=mg (I++[(p,l2,v2)]):=by
 rw[vK,vK,MO _ _ (by rw[zu];omega),zu,show I.length*2+1-I.length*2=1 by omega];rfl
variable {g cap:Nat}
theorem rF.aec{l2:List Nat}{v2:Value}(h:rF w0 wb sb gN cN gs cS N vo (.slice (some ⟨g,0,none⟩) (I.length+1) cap) (I++[(p,l,v)]) s o w)(hv:rZ w0 v2 l2):rF w0 wb sb gN cN gs cS N vo (.slice (some ⟨g,0,none⟩) (I.length+1) cap) (I++[(p,l2,v2)]) s o (w.setCell ⟨g,I.length*2+1,none⟩ v2):=by
 have hit:w.ownsRow w0.heap.size 212 2 (.slice (some ⟨g,0,none⟩) (I.length+1) cap) (I.length+1) (mg (I++[(p,l,v)])):=by have:=h.items;rw[aF] at this;exact this
 have off:∀k,k≠g->(w.setCell ⟨g,I.length*2+1,none⟩ v2).heap[k]?=w.heap[k]?:=fun k hn=>iP hn
 exact {
  row:=(off wb (fun e=>iV h.row h.items (by decide) (by rw[e];rfl))).trans h.row
  seen:=dL h.seen (fun k hk=>off k (fun e=>pz h.seen h.items (by decide) hk (by rw[e];rfl)))
  order:=dL h.order (fun k hk=>off k (fun e=>pz h.order h.items (by decide) hk (by rw[e];rfl)))
  sJ:=(off sb (fun e=>iV h.sJ h.items (by decide) (by rw[e];rfl))).trans h.sJ
  items:=by
   rw[aF,<-WR I p l v v2 l2];exact FB hit _ _
  left:=fun x hx=>by
   rcases bK.1 hx with hx|hx
   ·exact h.left x (fq _ hx)
   obtain rfl:=bg.1 hx;exact hv
  needs:=h.needs
  bl:=h.bl.setCell (p:=⟨g,I.length*2+1,none⟩) (bA hit g rfl).1 _
  Ci:=h.Ci
  slow:=h.slow}
theorem ZU{m:Nat}{ys:List Value}(h:w.ownsRow B e k (.slice (some ⟨g,0,none⟩) m cap) m (xs++ys))(hx:xs.length=n*k)(hnm:n<=m):w.ownsRow B e k (.slice (some ⟨g,0,none⟩) n cap) n xs:=by
 obtain⟨h1,⟨e,h0⟩|⟨g',cap',cur,e,hg,hh,hn,hm,hs,ht⟩⟩:=h
 ·cases e
 injection e with e1 e2 e3;injection e1 with e1;injection e1 with e1 _ _;subst e1 e3;refine⟨hx,aL ⟨g,cap,cur,rfl,hg,hh,by omega,hm,hs,?_⟩⟩;have:=gW (List.take (n*k)) ht;rw[List.take_take,lG (Nat.mul_le_mul_right k hnm)] at this;rw[this,<-hx,List.take_left]
theorem rF.below(h:rF w0 wb sb gN cN gs cS N vo vi I s o w)(hb:Below w.heap.size w w'):rF w0 wb sb gN cN gs cS N vo vi I s o w' where
 row:=(hb.block wb (bI h.row)).trans h.row
 seen:=dL h.seen (fun k hk=>hb.block k (bA h.seen k hk).2)
 order:=dL h.order (fun k hk=>hb.block k (bA h.order k hk).2)
 sJ:=(hb.block sb h.sJ.lt).trans h.sJ
 items:=dL h.items (fun k hk=>hb.block k (bA h.items k hk).2)
 left:=h.left
 needs:=h.needs
 bl:=h.bl.trans (hb.mono h.bl.size)
 Ci:=h.Ci
 slow:=h.slow
theorem rF.pop{x:Nat×List Nat×Value}(h:rF w0 wb sb gN cN gs cS N vo (.slice (some ⟨g,0,none⟩) (I.length+1) cap) (I++[x]) s o w)(hr:yY w' sb (.slice (some ⟨g,0,none⟩) I.length cap))(hm:lm (fun k=>k=sb) w w'):rF w0 wb sb gN cN gs cS N vo (.slice (some ⟨g,0,none⟩) I.length cap) I s o w':=by
 have off:∀k,k<w.heap.size->k≠sb->w'.heap[k]?=w.heap[k]?:=fun k hk hn=>hm.block k hk hn
 have hws:wb≠sb:=fun e=>by
  have h1:=h.row;unfold Vu at h1;rw[e,h.sJ] at h1;injection h1 with h1;injection h1 with _ h1 _;exact absurd h1 (by decide)
 have hit:w.ownsRow w0.heap.size 212 2 (.slice (some ⟨g,0,none⟩) (I.length+1) cap) (I.length+1) (mg I++mg [x]):=by have:=h.items;rw[aF,vK] at this;exact this
 exact {
  row:=(off wb (bI h.row) hws).trans h.row
  seen:=dL h.seen (fun k hk=>off k (bA h.seen k hk).2 (fun e=>iV h.sJ h.seen (by decide) (by rw[<-e];exact hk)))
  order:=dL h.order (fun k hk=>off k (bA h.order k hk).2 (fun e=>iV h.sJ h.order (by decide) (by rw[<-e];exact hk)))
  sJ:=hr
  items:=dL (ZU hit (zu I) (fB _)) (fun k hk=>off k (by have e:g=k:=ak hk;subst e;exact(bA hit g rfl).2) (fun e=>iV h.sJ hit (by decide) (by rw[<-e];exact hk)))
  left:=fun y hy=>h.left y (fq _ hy)
  needs:=h.needs
  bl:=lm.below h.bl h.bl.size hm (fun k hk=>by rw[hk];exact h.slow)
  Ci:=h.Ci
  slow:=h.slow}
theorem rF.aa0{wx w3:aj}(h:rF w0 wb sb gN cN gs cS N vo vi I s o w)(hb:Below w.heap.size w wx)(hg:wx.grownBy w3 vo.ownBlock)(hr:w3.ownsRow w0.heap.size 3 1 (.slice (some ⟨g,0,none⟩) (o.length+1) cap) (o.length+1) (lZ o++[.int .i64 (p:Nat)])):rF w0 wb sb gN cN gs cS N (.slice (some ⟨g,0,none⟩) (o.length+1) cap) vi I s (o++[p]) (w3.setCell ⟨wb,2,none⟩ (.slice (some ⟨g,0,none⟩) (o.length+1) cap)):=by
 have hx:=h.below hb
 have TK:∀k,k<wx.heap.size->vo.ownBlock≠some k->w3.heap[k]?=wx.heap[k]?:=fun k hk hn=>hg.block k hk (fun e=>hn e.symm)
 have off:∀k,k<wx.heap.size->vo.ownBlock≠some k->k≠wb->(w3.setCell ⟨wb,2,none⟩ (.slice (some ⟨g,0,none⟩) (o.length+1) cap)).heap[k]?=wx.heap[k]?:=fun k hk hn h2=>(iP h2).trans (TK k hk hn)
 have hrow3:w3.heap[wb]?=_:=(TK wb (bI hx.row) (iV hx.row hx.order (by decide))).trans hx.row
 have hws:sb≠wb:=fun e=>by
  have h1:=h.row;unfold Vu at h1;rw[<-e,h.sJ] at h1;injection h1 with h1;injection h1 with _ h1 _;exact absurd h1 (by decide)
 exact {
  row:=by unfold Vu;rw[xY hrow3];rfl
  seen:=dL hx.seen (fun k hk=>off k (bA hx.seen k hk).2 (pz hx.seen hx.order (by decide) hk) (fun e=>iV hx.row hx.seen (by decide) (by rw[<-e];exact hk)))
  order:=by
   rw[aF,Fg];exact dL hr (fun k hk=>iP (show k≠wb from fun e=>iV hrow3 hr (by decide) (by rw[<-e];exact hk)))
  sJ:=(off sb hx.sJ.lt (iV hx.sJ hx.order (by decide)) hws).trans hx.sJ
  items:=dL hx.items (fun k hk=>off k (bA hx.items k hk).2 (pz hx.items hx.order (by decide) hk) (fun e=>iV hx.row hx.items (by decide) (by rw[<-e];exact hk)))
  left:=h.left
  needs:=h.needs
  bl:=(hx.bl.grown hg hx.bl.size (fun k hk=>(bA hx.order k hk).1)).setCell (p:=⟨wb,2,none⟩) h.Ci _
  Ci:=h.Ci
  slow:=h.slow}
structure tY(w0:aj)(wb gN cN gs cS:Nat)(N:List (List Nat))(vo:Value)(s o:List Nat)(w:aj):Prop where
 row:Vu w wb (.slice (some ⟨gN,0,none⟩) N.length cN) (.slice (some ⟨gs,0,none⟩) N.length cS) vo
 seen:w.ownsRow w0.heap.size 206 1 (.slice (some ⟨gs,0,none⟩) N.length cS) N.length (lZ s)
 order:w.ownsRow w0.heap.size 3 1 vo o.length (lZ o)
 needs:vF w0 gN N
 bl:Below w0.heap.size w0 w
 Ci:w0.heap.size<=wb
theorem rF.walk(h:rF w0 wb sb gN cN gs cS N vo vi I s o w):tY w0 wb gN cN gs cS N vo s o w:=⟨h.row,h.seen,h.order,h.needs,h.bl,h.Ci⟩
theorem tY.start(h:tY w0 wb gN cN gs cS N vo s o w):rF w0 wb w.heap.size gN cN gs cS N vo (.slice none 0 0) [] s o (w.alloc (.cells #[.slice none 0 0] 209)):=by
 have hb:Below w.heap.size w (w.alloc (.cells #[.slice none 0 0] 209)):=(au _ _).alloc (ai _) _
 exact {
  row:=(hb.block wb (bI h.row)).trans h.row
  seen:=dL h.seen (fun k hk=>hb.block k (bA h.seen k hk).2)
  order:=dL h.order (fun k hk=>hb.block k (bA h.order k hk).2)
  sJ:=aW _ _ _ rfl
  items:=dD _ _ _ _
  left:=fun x hx=>by cases hx
  needs:=h.needs
  bl:=h.bl.trans (hb.mono h.bl.size)
  Ci:=h.Ci
  slow:=h.bl.size}
theorem Uu(b o L cap:Nat)(h:L+1<=cap):∃o',(∀k,k<L->o'+k=o+1+k)/\∀wx,(Instr.slice 48 (.slice (some ⟨b,o,none⟩) (L+1) cap) (some (.int .i64 1)) none none).run Tryz.prog wx=.ok (.slice (some ⟨b,o',none⟩) L (cap-1)) wx:=by
 by_cases hc:cap=1
 ·subst hc
  obtain rfl:L=0:=by omega
  exact⟨o,fun k hk=>by omega,fun wx=>by kernel_rfl⟩
 refine⟨o+1,fun k _=>rfl,fun wx=>?_⟩
 simp[Instr.slice,mZ Tryz.underlying48,go_sem,hc]
 intro hh;omega
structure He(N:List (List Nat))(R:Bool×List Nat×List Nat)(I:qp)(s o:List Nat)(gk:Nat):Prop where
 fits:qX N (rR I) s
 run:Cg N (rR I) s o=R
 work:kP N (rR I) s<=gk
 few:o.length+kP N (rR I) s<=1000000000000
theorem AV(N:List (List Nat)):∀(s:List Nat) (i p:Nat),fG N (s.set p 1) i<=fG N s i
 |[],_,_=>ai _
 |x::s,i,0=>by
  show(if (1:Nat)=0 then _ else 0)+fG N s (i+1)<=(if x=0 then _ else 0)+fG N s (i+1);rw[ax (by decide)];omega
 |x::s,i,p+1=>by
  have ih:=AV N s (i+1) p;show(if x=0 then _ else 0)+fG N (s.set p 1) (i+1)<=(if x=0 then _ else 0)+fG N s (i+1);omega
theorem UA:∀k:DI,k.length<=Xo k
 |[]=>ai _
 |x::k=>by have:=UA k;rw[qP,aS];omega
theorem Rc(I:qp):(rR I).length=I.length:=by simp[rR]
theorem He.len{R:Bool×List Nat×List Nat}{gk:Nat}(h:He N R I s o gk):I.length<=1000000000000/\o.length<=1000000000000:=by
 have h1:=UA (rR I);rw[Rc] at h1;have h2:=h.few;unfold kP at h2;omega
theorem Pf(h:tY w0 wb gN cN gs cS N vo s o w)(hf:qX N [] s)(hp:p<N.length)(hN:N.length<=1000)(hb:o.length+fG N s 0+(N.getD p []).length+10<=1000000000000):
  Calls Tryz.prog 72 #[.pointer (some ⟨wb,0,none⟩),.int .i64 (p:Nat)] w fun e w'=>e=.returned (.bool (fU N p s o).1)/\∃vo',tY w0 wb gN cN gs cS N vo' (fU N p s o).2.1 (fU N p s o).2.2 w':=by
 have c1:w.cell? ⟨wb,1,none⟩=some (.slice (some ⟨gs,0,none⟩) N.length cS):=by rw[bZ h.row];rfl
 obtain⟨hsl,cur,hcur,hcx⟩:=Cy h.seen
 have cx:w.cell? ⟨gs,p,none⟩=some (.int .i64 (s.getD p 0:Nat)):=by rw[bZ hcur];exact hcx p hp
 have H:=aP h;have HF:=aP hf
 have p0:(0:Int)<=(p:Int):=by omega
 have p1:(p:Int)<(N.length:Int):=by omega
 have HV:=h.start;have HSE:=Cy HV.seen;clear hcur hcx h hf
 by_cases h2:s.getD p 0=2
 ·have hvs:fU N p s o=(true,s,o):=aD h2;rw[hvs];rw[h2] at cx;clear HV HSE h2 hvs
  go_enter Tryz.func72,Tryz.ntmps72
  go_wp2
  go_step3
  go_wp2
  try rw[Exit.noGoto_ret]
  go_ret;exact⟨rfl,vo,H.out⟩
 have HVS:Hid (fU N p s o=Cg N [(p,N.getD p [])] (s.set p 1) o):=ax h2;obtain⟨R,hR⟩:∃R,R=fU N p s o:=⟨_,rfl⟩;rw[<-hR];obtain⟨Rb,Rs,Ro⟩:=R
 simp only
 have HRR:Hid (Cg N [(p,N.getD p [])] (s.set p 1) o=(Rb,Rs,Ro)):=by rw[hR];exact HVS.out.symm
 have b2:(((s.getD p 0:Nat):Int)==2)=false:=by
  clear cx HRR;generalize s.getD p 0=x at*
  simp;omega
 clear hR HVS;generalize hw1:w.alloc (.cells #[.slice none 0 0] 209)=w1 at*;obtain⟨-,alb,aeM,ain⟩:=HSE;obtain⟨av,cv,hav,hint⟩:=HV.need hp;have hne:=HV.ahY (by omega);have HBG:=aP (NJ HV.row hp hp hav aeM (ain p hp) hne.1 hne.2.1);replace HV:=aP HV;have aff:=aP hint;have HP:=aP (aK hp hsl);have Rl:=aP hb;have HH2:=aP h2;clear aeM ain hav hint hne hsl hb h2;generalize hsb:w.heap.size=sb at*;have HSB:=aP hsb;clear hsb;generalize hNL:N.length=NL at*;have CY:=aP hNL;clear hNL;generalize hPL:(N.getD p []).length=PL at*;have HPL:=aP hPL;clear hPL alb;generalize hsp:s.getD p 0=sp at*;clear hsp cur
 go_enter Tryz.func72,Tryz.ntmps72
 go_wp2
 go_step3
 go_wp2_with fail
 refine HBG.out.mono ?_;rintro e w2 ⟨rfl,hm2,hg2⟩;rw[HSB.out];have HV2:=aP (HV.out.mark (x:=1) hm2 hg2);have HPU:Hid (Calls Tryz.prog 117 #[.pointer (some ⟨sb,0,none⟩),.agg #[.int .i64 (p:Nat),.slice av PL cv]] w2 fun e w'=>e=.returned (.tuple #[])/\∃Xt,yY w' sb Xt/\w'.ownsRow w0.heap.size 212 2 Xt (([]:qp).length+1) (mg ([]++[(p,N.getD p [],.slice av PL cv)]))/\lm (fun k=>k=sb\/(Value.slice none 0 0).ownBlock=some k) w2 w'):=Ug p (N.getD p []) _ HV2.out.sJ HV2.out.items HV2.out.bl.size (aN _) (aff.out.keep (fun k hk=>HV2.out.bl.block k hk));clear hm2 hg2 HBG HV c1 cx b2 hw1
 go_wp2_with fail
 refine HPU.out.mono ?_;rintro e w3 ⟨rfl,vi3,hr3,ho3,hm3⟩;have HV3:=aP (HV2.out.push aff.out hr3 ho3 hm3)
 have Ep:Hid (He N (Rb,Rs,Ro) [(p,N.getD p [],.slice av PL cv)] (s.set p 1) o (kP N [(p,N.getD p [])] (s.set p 1))):=by
  have hf:=HF.out
  have hp':p<N.length:=by rw[CY.out];exact hp
  refine⟨(hf.push hp').set hp' (by decide),HRR.out,ai _,?_⟩;show o.length+kP N [(p,N.getD p [])] (s.set p 1)<=1000000000000;have h1:fG N (s.set p 1) 0<=fG N s 0:=AV N s 0 p;unfold kP;rw[qP];have h2:Xo []=0:=rfl;have hPL:=HPL.out;have h3:=Rl.out
  simp only
  omega
 clear hr3 ho3 hm3 HPU HV2 aff HRR Rl
 go_wp2_with fail
 go_step3
 go_wp2_with fail
 go_loopg [] (kP N [(p,N.getD p [])] (s.set p 1)) (fun gk wr=>∃vo vi I s o,rF w0 wb sb gN cN gs cS N vo vi I s o wr/\He N (Rb,Rs,Ro) I s o gk)
 case atStart=>exact⟨vo,vi3,_,_,o,HV3.out,Ep.out⟩
 case round=>
  clear HV3 Ep HH2 HPL;obtain⟨vo1,vi,I,s1,o1,hv,Wi⟩:=hrel;have HV:=aP hv;have HU:=aP Wi;obtain⟨kz,DN,MC,hci,hgi⟩:=bq hv.items;have hem:=YW (w:=wr) (sb:=sb) hv.sJ ⟨_,_,MC⟩
  rcases tL I with hI|⟨J,x,hI⟩
  ·subst hI;have Yp:=aP hem
   have HFIN:Hid (Rb=true/\tY w0 wb gN cN gs cS N vo1 Rs Ro wr):=by
    have hr:(true,s1,o1)=(Rb,Rs,Ro):=Wi.run;injection hr with e1 hr;injection hr with e2 e3;subst e1 e2 e3;exact⟨rfl,hv.walk⟩
   clear hem hv Wi MC hci hgi HV HU
   go_wp2_with fail
   refine Yp.out.mono ?_;rintro e wx ⟨rfl,hwx⟩;rw[hwx];clear hwx Yp wx
   go_wp2_with fail
   obtain⟨hRb,hWk⟩:=HFIN.out;subst hRb
   try rw[Exit.noGoto_ret]
   go_ret;exact⟨rfl,vo1,hWk⟩
  obtain⟨q,l,v⟩:=x
  have hIL:I.length=J.length+1:=by rw[hI];simp
  obtain⟨GK,hGK⟩:∃G,G=gk:=⟨_,rfl⟩;have Yq:=aP hGK;rw[<-hGK] at HU;clear hGK;obtain⟨g,rfl⟩:=hgi (by omega)
  have hbn:(((I.length:Nat):Int)==0)=false:=by rw[hIL];simp;omega
  rw[hbn] at hem;have Yp:=aP hem;rw[hIL] at MC hci;subst MC;rw[tK] at hI;subst hI;have HTP:Hid (Calls Tryz.prog 120 #[.pointer (some ⟨sb,0,none⟩)] wr fun e w'=>e=.returned (.pointer (some ⟨g,J.length*2,none⟩))/\Below wr.heap.size wr w'):=aei hv.sJ (by have:=Wi.len.1;simp only[aF,aS,dR] at this;omega);clear hem hv Wi hbn hIL hgi
  go_wp2_with fail
  refine Yp.out.mono ?_;rintro e wx ⟨rfl,hwx⟩;rw[hwx];clear hwx Yp wx
  go_wp2_with fail
  refine HTP.out.mono ?_;rintro e wt ⟨rfl,hbt⟩;have HVT:=aP (HV.out.below hbt);clear hbt HTP HV
  go_wp2_with fail
  go_loopg [] l.length (fun g2 wr=>∃l v,rF w0 wb sb gN cN gs cS N vo1 (.slice (some ⟨g,0,none⟩) (J.length+1) DN) (J++[(q,l,v)]) s1 o1 wr/\He N (Rb,Rs,Ro) (J++[(q,l,v)]) s1 o1 GK/\l.length<=g2)
  case atStart=>exact⟨l,v,HVT.out,HU.out,ai _⟩
  case round=>
   clear HVT HU v l;obtain⟨l,v,hv,Wi,hlg⟩:=hrel;have HV:=aP hv;have HU:=aP Wi;have HLG:=aP hlg
   have hit:wr.ownsRow w0.heap.size 212 2 (.slice (some ⟨g,0,none⟩) (J.length+1) DN) (J.length+1) (mg (J++[(q,l,v)])):=by have:=hv.items;rw[aF] at this;exact this
   have hat:(J++[(q,l,v)])[J.length]?=some (q,l,v):=by simp
   have k0:=(dO hit (J.length*2) _ (Gy hat).1);have k1:=(dO hit (J.length*2+1) _ (Gy hat).2);have kc0:=k0.1;have kc1:=k1.1;have kf1:=k1.2;simp only at kc0 kc1;have hint:=hv.left (q,l,v) (by simp);simp only at hint;obtain⟨al,cl,rfl,hcl,hcells⟩:=hint
   have r1:wr.cell? ⟨wb,1,none⟩=some (.slice (some ⟨gs,0,none⟩) NL cS):=by rw[bZ hv.row,<-CY.out];rfl
   have hbl:=hv.bl
   have HNF:Hid (∀n,n<NL->wr.cell? ⟨gs,n,none⟩=some (.int .i64 (s1.getD n 0:Nat))/\wr.frozen? ⟨gs,n,none⟩=false):=fun n hn=>by
    obtain⟨_,cur,hcur,hcx⟩:=Cy hv.seen;exact⟨by rw[bZ hcur];exact hcx n (by rw[CY.out];exact hn),iG hcur⟩
   cases l with
   |nil=>
    have hq:q<NL:=by
     rw[<-CY.out];exact(Wi.fits.stk (q,[]) (by rw[kY];exact aM ..)).1
    have q0:(0:Int)<=(q:Int):=by omega
    have q1:(q:Int)<(NL:Int):=by omega
    have sc:=(HNF.out q hq).1;have sf:=(HNF.out q hq).2;have HV5:Hid (rF w0 wb sb gN cN gs cS N vo1 (.slice (some ⟨g,0,none⟩) (J.length+1) DN) (J++[(q,[],.slice al 0 cl)]) (s1.set q 2) o1 (wr.setCell ⟨gs,q,none⟩ (.int .i64 2)).drew):=(HV.out.marked q 2).below ⟨rfl,rfl,rfl,ai _,fun _ _=>rfl⟩;clear hcells Wi hlg hat k0 k1 hit hv hbl
    go_wp2_with fail
    go_region
    clear sc sf r1 kc0 kc1 kf1;generalize (wr.setCell ⟨gs,q,none⟩ (.int .i64 2)).drew=w5 at*;have hv5:=HV5.out
    have ais:w5.ownsRow w0.heap.size 212 2 (.slice (some ⟨g,0,none⟩) (J.length+1) DN) (J.length+1) (mg (J++[(q,[],.slice al 0 cl)])):=by have:=hv5.items;rw[aF] at this;exact this
    have kc0:=(dO ais (J.length*2) _ (Gy (show(J++[(q,[],.slice al 0 cl)])[J.length]?=some (q,[],.slice al 0 cl) by simp)).1).1;simp only at kc0;obtain⟨mY,YM,Ru,_,_⟩:=bq hv5.order;have HOL:=aP HU.out.len.2;generalize hol:o1.length=OL at*;have HOE:=aP hol;clear hol;subst Ru
    have c2:w5.cell? ⟨wb,2,none⟩=some (.slice mY OL YM):=by rw[bZ hv5.row];rfl
    have c2a:(w5.alloc (.cells #[.int .i64 (q:Nat)] 3)).cell? ⟨wb,2,none⟩=some (.slice mY OL YM):=(aB (w:=w5) (a:=⟨wb,2,none⟩) (aZ _ _ wb (bI hv5.row))).trans c2
    have hinf:(Tryz.prog.info? 3).map (fun i=>(i.size,i.bytes,i.zero))=some (1,8,some (.int .i64 0)):=by kernel_rfl
    obtain⟨ti,hti,htj⟩:=aX.1 hinf;simp only[Prod.mk.injEq] at htj;have HTI:=aP (aK hti (aK htj.1 (aK htj.2.1 htj.2.2)));have apA:=HOL.out;clear hinf hti htj hv5 ais
    go_wp2_with fail
    refine jT (by kernel_rfl) ?_;change wpAny _ _ _ _ _ _ _ (World.drew _);refine uA 0 (.pointer (some ⟨wb,0,none⟩)) rfl ?_<|uA 1 (.pointer (some ⟨wb,0,none⟩)) rfl ?_<|uA 2 (.pointer (some ⟨wb,0,none⟩)) rfl ?_<|uA 3 (.pointer (some ⟨wb,2,none⟩)) rfl ?_<|uA 5 (.pointer (some ⟨g,J.length*2,none⟩)) rfl ?_<|uA 6 (.pointer (some ⟨g,J.length*2,none⟩)) rfl ?_<|uA 7 (.pointer (some ⟨g,J.length*2,none⟩)) rfl ?_ ?_;(iterate 7 ·exact⟨by kernel_rfl,kI,by intro w;go_simp⟩)
    refine pA 4 8 rfl rfl (by kernel_rfl) (fun K hK=>?KY) fun K hK=>?KZ
    case' KY=>
     go_simp;refine hK _ _ ?_;clear hK K
     refine rA 8 rfl (by kernel_rfl) fun K hK=>?_
     go_simp;refine hK _ _ ?_;clear hK K
     refine rA 9 rfl (by kernel_rfl) fun K hK=>?_
     go_simp
    case' KZ=>
     go_simp;refine hK _ _ ?_;clear hK K
     refine pA 4 9 rfl rfl (by kernel_rfl) (fun K hK=>?QG) fun K hK=>?QH
     case' QG=>
      go_simp;refine hK _ _ ?_;clear hK K
      refine rA 9 rfl (by kernel_rfl) fun K hK=>?_
      go_simp
     case' QH=>
      go_simp;refine hK _ _ ?_;clear hK K
      refine rA 4 rfl (by kernel_rfl) fun K hK=>?_
      go_simp
    all_goals
     refine hK _ _ ?_;clear hK K;obtain⟨W8,Gq⟩:∃W8,W8=(w5.alloc (.cells #[.int .i64 (q:Nat)] 3)).drew:=⟨_,rfl⟩
     have Bb:Hid (Below w5.heap.size w5 W8):=by rw[Gq];exact((au _ _).alloc (ai _) _).drew
     have HN8:Hid (∀j u,([.int .i64 (q:Nat)]:List Value)[j]?=some u->W8.cell? ((⟨w5.heap.size,0,none⟩:Addr).add j)=some u):=by rw[Gq];exact iH w5 _ _
     rw[<-Gq];clear Gq c2a
     have HD8:Hid (W8.ownsRow w0.heap.size 3 1 (.slice mY OL YM) OL (lZ o1)):=by
      have h:=(HV5.out.below Bb.out).order;rw[HOE.out] at h;exact h
     have hB8:w0.heap.size<=W8.heap.size:=aA HV5.out.bl.size Bb.out.size
     refine rA 10 rfl (by kernel_rfl) fun K hK=>?_
     refine step_append_lies _ rfl (.tmp 71) (.tmp 76) 48 rfl w0.heap.size 3 ti (.int .i64 0) 1 8 Tryz.underlying48 HTI.out.1 HTI.out.2.2.2 HTI.out.2.1 HTI.out.2.2.1 rfl (by decide) _ OL (lZ o1) rfl HD8.out ⟨w5.heap.size,0,none⟩ 1 1 [.int .i64 (q:Nat)] rfl rfl HN8.out (by intro u hu;simp only[aV,dz,ko] at hu;rcases hu with rfl;rfl) (by decide) (by unfold maxLen;omega) (by omega) hB8 _ rfl ?_;intro g6 cap6 w6 hv6 hg6 hat6 hlt6;have h8:=HV5.out.below Bb.out;have hrow6:=(hg6.block wb (bI h8.row) (fun e=>iV h8.row h8.order (by decide) e.symm)).trans h8.row
     have d6:w6.cell? ⟨wb,2,none⟩=some (.slice mY OL YM):=by rw[bZ hrow6];rfl
     have f6:w6.frozen? ⟨wb,2,none⟩=false:=iG hrow6
     have HV6:Hid (rF w0 wb sb gN cN gs cS N (.slice (some ⟨g6,0,none⟩) (OL+1) cap6) (.slice (some ⟨g,0,none⟩) (J.length+1) DN) (J++[(q,[],.slice al 0 cl)]) (s1.set q 2) (o1++[q]) (w6.setCell ⟨wb,2,none⟩ (.slice (some ⟨g6,0,none⟩) (OL+1) cap6))):=by
      have e:=HOE.out;subst e;exact HV5.out.aa0 Bb.out hg6 hv6
     clear hv6 hg6 hat6 hlt6 hrow6 h8;refine hK _ _ ?_;clear hK K;refine uA 11 (.pointer (some ⟨wb,0,none⟩)) rfl ?_<|uA 12 (.pointer (some ⟨wb,2,none⟩)) rfl ?_ ?_;(iterate 2 ·exact⟨by kernel_rfl,kI,by intro w;go_simp⟩)
     refine rA 13 rfl (by kernel_rfl) fun K hK=>?_
     go_simp;refine hK _ _ ?_;clear hK K;refine yP (by kernel_rfl) ?_ _;clear d6 f6;generalize w6.setCell ⟨wb,2,none⟩ (.slice (some ⟨g6,0,none⟩) (OL+1) cap6)=w7 at*;have HPO:Hid (Calls Tryz.prog 121 #[.pointer (some ⟨sb,0,none⟩)] w7 fun e w'=>e=.returned (.tuple #[])/\yY w' sb (.slice (some ⟨g,0,none⟩) J.length DN)/\lm (fun k=>k=sb) w7 w'):=ad3 HV6.out.sJ (by have:=HU.out.len.1;simp only[aF,aS,dR] at this;omega) hci
     go_wp2_with fail
     refine HPO.out.mono ?_;rintro e w9 ⟨rfl,hr9,hm9⟩;have HV9:=aP (HV6.out.pop hr9 hm9)
     have HU9:Hid (He N (Rb,Rs,Ro) J (s1.set q 2) (o1++[q]) (kP N (rR J) (s1.set q 2))/\kP N (rR J) (s1.set q 2)<GK):=by
      have hu:=HU.out;have hfi:=hu.fits;have hrn:=hu.run;have hwk:=hu.work;have hfw:=hu.few;rw[kY] at hfi hrn hwk hfw;have hw:=zY N q (rR J) s1;refine⟨⟨hfi.pop.set (by rw[CY.out];exact hq) (by decide),(aam hfi).symm.trans hrn,ai _,?_⟩,by omega⟩;rw[aF];simp only[aS,dR];omega
     clear hr9 hm9 HPO HV6
     go_wp2_with fail
     go_roundg (kP N (rR J) (s1.set q 2))
     case measure=>rw[<-Yq.out];exact HU9.out.2
     case rel=>exact⟨_,_,_,_,_,HV9.out,HU9.out.1⟩
   |cons n l2=>
    obtain⟨Vy,o2,rfl,hcs⟩:∃b o,al=some ⟨b,o,none⟩/\∀k x,(n::l2)[k]?=some x->w0.cell? ⟨b,o+k,none⟩=some (.int .i64 (x:Nat)):=by
     rcases hcells with h|h
     ·cases h
     exact h
    have cn:wr.cell? ⟨Vy,o2,none⟩=some (.int .i64 (n:Nat)):=by
     have:=hcs 0 n rfl;exact(hbl.cell (p:=⟨Vy,o2,none⟩) (aC this)).trans this
    simp only[aS] at kc1 hcl;obtain⟨o3,ho3,hsl⟩:=Uu Vy o2 l2.length cl hcl
    have HI2:Hid (rZ w0 (.slice (some ⟨Vy,o3,none⟩) l2.length (cl-1)) l2):=⟨_,_,rfl,by omega,aL ⟨Vy,o3,rfl,fun k x hx=>by
     have hk:=ho3 k (aJ.1 hx).1;have:=hcs (k+1) x hx;rw[show o2+(k+1)=o3+k by omega] at this
     exact this⟩⟩
    have HV9:=aP (HV.out.aec HI2.out);have hmem:=Wi.fits.stk (q,n::l2) (by rw[kY];exact aM ..)
    have hn1:n<NL:=by rw[<-CY.out];exact hmem.2 n (aM ..)
    have n0:(0:Int)<=(n:Int):=by omega
    have n1:(n:Int)<(NL:Int):=by omega
    have hv9:=HV9.out
    have r9:(wr.setCell ⟨g,J.length*2+1,none⟩ (.slice (some ⟨Vy,o3,none⟩) l2.length (cl-1))).cell? ⟨wb,1,none⟩=some (.slice (some ⟨gs,0,none⟩) NL cS):=by rw[bZ hv9.row,<-CY.out];rfl
    obtain⟨-,alc,abk,afX⟩:=Cy hv9.seen
    have s9:(wr.setCell ⟨g,J.length*2+1,none⟩ (.slice (some ⟨Vy,o3,none⟩) l2.length (cl-1))).cell? ⟨gs,n,none⟩=some (.int .i64 (s1.getD n 0:Nat)):=by rw[bZ abk];exact afX n (by rw[CY.out];exact hn1)
    have HBG:Hid (∃av cv,rZ w0 (.slice av (N.getD n []).length cv) (N.getD n [])/\Calls Tryz.prog 118 #[.pointer (some ⟨wb,0,none⟩),.int .i64 (n:Nat)] (wr.setCell ⟨g,J.length*2+1,none⟩ (.slice (some ⟨Vy,o3,none⟩) l2.length (cl-1))) fun e w'=>e=.returned (.agg #[.int .i64 (n:Nat),.slice av (N.getD n []).length cv])/\lm (fun k=>k=gs) (wr.setCell ⟨g,J.length*2+1,none⟩ (.slice (some ⟨Vy,o3,none⟩) l2.length (cl-1))) w'/\w'.heap[gs]?=((wr.setCell ⟨g,J.length*2+1,none⟩ (.slice (some ⟨Vy,o3,none⟩) l2.length (cl-1))).setCell ⟨gs,n,none⟩ (.int .i64 1)).heap[gs]?):=by
     have hnN:n<N.length:=by rw[CY.out];exact hn1
     obtain⟨av,cv,hav,hint⟩:=hv9.need hnN;have hne:=hv9.ahY (by omega);exact⟨av,cv,hint,NJ hv9.row hnN hnN hav abk (afX n hnN) hne.1 hne.2.1⟩
    have HN1:=aP hn1;clear hcells hcs Wi hlg hat k0 k1 hit hv hbl hv9 abk afX hmem ho3 alc
    have hlz:(0:Int)<(l2.length:Int)+1:=by omega
    generalize hL2:l2.length=L2 at*;have HL2:=aP hL2;clear hL2;generalize hx1:s1.getD n 0=x1 at*;have HX1:=aP hx1
    have hx3:x1<=2:=by rw[<-hx1];exact HU.out.fits.three n
    clear hx1
    by_cases e1:x1=1
    ·subst e1
     have HFIN:Hid (Rb=false/\tY w0 wb gN cN gs cS N vo1 Rs Ro (wr.setCell ⟨g,J.length*2+1,none⟩ (.slice (some ⟨Vy,o3,none⟩) L2 (cl-1)))):=by
      have hr:=HU.out.run;rw[kY,UR HX1.out] at hr;injection hr with e1 hr;injection hr with e2 e3;subst e1 e2 e3;exact⟨rfl,HV9.out.walk⟩
     clear HBG HV9 HU HV
     go_wp2_with fail
     obtain⟨hRb,hWk⟩:=HFIN.out;subst hRb
     try rw[Exit.noGoto_ret]
     go_ret;exact⟨rfl,vo1,hWk⟩
    have b1:(((x1:Nat):Int)==1)=false:=by simp;omega
    by_cases e2:x1=2
    ·subst e2
     have HU9:Hid (He N (Rb,Rs,Ro) (J++[(q,l2,.slice (some ⟨Vy,o3,none⟩) L2 (cl-1))]) s1 o1 GK):=by
      have hu:=HU.out;have hfi:=hu.fits;have hrn:=hu.run;have hwk:=hu.work;have hfw:=hu.few;rw[kY] at hfi hrn hwk hfw;have hw:=xJ N q n l2 (rR J) s1;refine⟨by rw[kY];exact hfi.skip,by rw[kY];exact(Xx hfi HX1.out).symm.trans hrn,by rw[kY];omega,by rw[kY];omega⟩
     clear HBG HU HV
     go_wp2_with fail
     go_roundg L2
     case measure=>
      have h1:=HLG.out;have h2:=HL2.out;simp only[aS] at h1;omega
     case rel=>exact⟨l2,_,HV9.out,HU9.out,dx HL2.out⟩
    obtain rfl:x1=0:=by omega
    obtain⟨av9,cv9,aeO,aia⟩:=HBG.out;have ag5:=aP aia;have HI9:=aP aeO;clear aeO aia HBG;generalize hPN:(N.getD n []).length=PN at*;clear hPN
    go_wp2_with fail
    refine ag5.out.mono ?_;rintro e yh ⟨rfl,aiw,aip⟩;have Yu:=aP (HV9.out.mark (x:=1) aiw aip);have HPU:Hid (Calls Tryz.prog 117 #[.pointer (some ⟨sb,0,none⟩),.agg #[.int .i64 (n:Nat),.slice av9 PN cv9]] yh fun e w'=>e=.returned (.tuple #[])/\∃Xt,yY w' sb Xt/\w'.ownsRow w0.heap.size 212 2 Xt ((J++[(q,l2,Value.slice (some ⟨Vy,o3,none⟩) L2 (cl-1))]).length+1) (mg ((J++[(q,l2,.slice (some ⟨Vy,o3,none⟩) L2 (cl-1))])++[(n,N.getD n [],.slice av9 PN cv9)]))/\lm (fun k=>k=sb\/(Value.slice (some ⟨g,0,none⟩) (J.length+1) DN).ownBlock=some k) yh w'):=Ug n (N.getD n []) _ Yu.out.sJ Yu.out.items Yu.out.bl.size (by have:=HU.out.len.1;simp only[aF,aS,dR] at this⊢;omega) (HI9.out.keep (fun k hk=>Yu.out.bl.block k hk))
    have ahK:Hid (He N (Rb,Rs,Ro) ((J++[(q,l2,.slice (some ⟨Vy,o3,none⟩) L2 (cl-1))])++[(n,N.getD n [],.slice av9 PN cv9)]) (s1.set n 1) o1 (kP N ((n,N.getD n [])::(q,l2)::rR J) (s1.set n 1))/\kP N ((n,N.getD n [])::(q,l2)::rR J) (s1.set n 1)<GK):=by
     have hu:=HU.out;have hfi:=hu.fits;have hrn:=hu.run;have hwk:=hu.work;have hfw:=hu.few;rw[kY] at hfi hrn hwk hfw
     have hnN:n<N.length:=by rw[CY.out];exact HN1.out
     have hw:=xI N q n l2 (rR J) s1 (by rw[hfi.len];exact hnN) HX1.out
     have hst:∀v v',rR ((J++[(q,l2,v)])++[(n,N.getD n [],v')])=(n,N.getD n [])::(q,l2)::rR J:=fun v v'=>by rw[kY,kY]
     refine⟨⟨by rw[hst];exact(hfi.skip.push hnN).set hnN (by decide),by rw[hst];exact(Xw hfi HX1.out).symm.trans hrn,by rw[hst];exact ai _,by rw[hst];omega⟩,by omega⟩
    clear aiw aip ag5 HV9 HV HU
    go_wp2_with fail
    refine HPU.out.mono ?_;rintro e GR ⟨rfl,apV,aiF,aiD,aix⟩;have akU:=aP (Yu.out.push HI9.out aiF aiD aix);clear aiF aiD aix HPU Yu
    go_wp2_with fail
    go_roundg (kP N ((n,N.getD n [])::(q,l2)::rR J) (s1.set n 1))
    case measure=>rw[<-Yq.out];exact ahK.out.2
    case rel=>exact⟨_,_,_,_,_,akU.out,ahK.out.1⟩
theorem Zy(n:Nat):(madeCells (Value.int .i64 0).cells (n*1)).toList=lZ (jP n):=by
 have h1:(Value.int .i64 0).cells=#[.int .i64 0]:=rfl;rw[h1,Pz];unfold madeCells jP lZ;refine List.ext_getElem (by simp) (fun i h1 h2=>?_)
 simp[Nat.mod_one]
theorem Ih(hN:vF w gN N)(hl:N.length<=1000):
  Calls Tryz.prog 71 #[.slice (some ⟨gN,0,none⟩) N.length cN] w fun e w'=>∃wb gs,e=.returned (.pointer (some ⟨wb,0,none⟩))/\tY w wb gN cN gs N.length N (.slice none 0 0) (jP N.length) [] w':=by
 have hinf:(Tryz.prog.info? 206).map (fun i=>(i.size,i.bytes,i.zero))=some (1,8,some (.int .i64 0)):=by kernel_rfl
 obtain⟨ti,hti,htj⟩:=aX.1 hinf;simp only[Prod.mk.injEq] at htj;obtain⟨w2,hmk,ho,hg⟩:=run_makeSlice_full (P:=Tryz.prog) w w.heap.size 146 206 ti (.int .i64 0) 1 Tryz.underlying146 hti htj.2.2 htj.1 .i64 .i64 N.length (by omega) (by rw[htj.2.1];omega) (by unfold maxLen;omega) (ai _);have hb2:Below w.heap.size w w2:=⟨hg.os,hg.tape,hg.output,hg.size,fun k hk=>hg.block k hk (by simp)⟩;rw[Zy] at ho
 have HW:Hid (tY w w2.heap.size gN cN w.heap.size N.length N (.slice none 0 0) (jP N.length) [] (w2.alloc (.cells #[.slice (some ⟨gN,0,none⟩) N.length cN,.slice (some ⟨w.heap.size,0,none⟩) N.length N.length,.slice none 0 0] 148))):=by
  refine⟨aW _ _ _ rfl,dL ho (fun k hk=>aZ _ _ k (bA ho k hk).2),dD _ _ _ _,hN,hb2.alloc hb2.size _,hb2.size⟩
 clear hinf hti htj ho hg hb2 hN;generalize hn:N.length=n at*
 have n0:(0:Int)<=(n:Int):=by omega
 go_enter Tryz.func71,Tryz.ntmps71
 go_wp2
 go_ret;exact⟨_,_,rfl,HW.out⟩
theorem En(N:List (List Nat))(hN:∀i,(N.getD i []).length<=30000):∀(s:List Nat) (i:Nat),fG N s i<=s.length*30002
 |[],_=>aN _
 |x::s,i=>by
  have ih:=En N hN s (i+1);have h:=hN i;show(if x=0 then _ else 0)+fG N s (i+1)<=(s.length+1)*30002
  split<;>omega
theorem yM(N:List (List Nat)):∀(f:Nat) (k:DI) (s o:List Nat),qX N k s->(oC N f k s o).2.2.length+fG N (oC N f k s o).2.1 0<=o.length+kP N k s/\qX N [] (oC N f k s o).2.1
 |0,k,s,o,hf=>⟨by show o.length+fG N s 0<=_;unfold kP;omega,⟨hf.len,hf.three,fun x hx=>by(cases hx),hf.needs⟩⟩
 |_+1,[],s,o,hf=>⟨by show o.length+fG N s 0<=_;unfold kP;omega,hf⟩
 |f+1,(p,[])::k,s,o,hf=>by
  have hp:=(hf.stk (p,[]) (aM ..)).1;have hw:=zY N p k s;have ih:=yM N f k (s.set p 2) (o++[p]) (hf.pop.set hp (by decide));refine⟨aA ih.1 ?_,ih.2⟩;rw[aF];simp only[aS,dR];omega
 |f+1,(p,n::l)::k,s,o,hf=>by
  have hn:=(hf.stk (p,n::l) (aM ..)).2 n (aM ..);show(if s.getD n 0=1 then (false,s,o) else if s.getD n 0=2 then oC N f ((p,l)::k) s o else oC N f ((n,N.getD n [])::(p,l)::k) (s.set n 1) o).2.2.length+fG N (if s.getD n 0=1 then (false,s,o) else if s.getD n 0=2 then oC N f ((p,l)::k) s o else oC N f ((n,N.getD n [])::(p,l)::k) (s.set n 1) o).2.1 0<=_/\qX N [] (if s.getD n 0=1 then (false,s,o) else if s.getD n 0=2 then oC N f ((p,l)::k) s o else oC N f ((n,N.getD n [])::(p,l)::k) (s.set n 1) o).2.1
  by_cases a:s.getD n 0=1
  ·rw[aD a];exact⟨by show o.length+fG N s 0<=_;unfold kP;omega,⟨hf.len,hf.three,fun x hx=>by(cases hx),hf.needs⟩⟩
  rw[ax a]
  by_cases b:s.getD n 0=2
  ·rw[aD b];have hw:=xJ N p n l k s;have ih:=yM N f _ s o hf.skip;exact⟨by omega,ih.2⟩
  rw[ax b]
  have h0:s.getD n 0=0:=by have:=hf.three n;omega
  have hw:=xI N p n l k s (by rw[hf.len];exact hn) h0;have ih:=yM N f _ (s.set n 1) o ((hf.skip.push hn).set hn (by decide));exact⟨by omega,ih.2⟩
theorem Iu(hf:qX N [] s)(hp:p<N.length):(fU N p s o).2.2.length+fG N (fU N p s o).2.1 0<=o.length+fG N s 0+(N.getD p []).length+1/\qX N [] (fU N p s o).2.1:=by
 unfold fU
 by_cases h:s.getD p 0=2
 ·rw[aD h];exact⟨by show o.length+fG N s 0<=_;omega,hf⟩
 rw[ax h];have:=yM N (kP N [(p,N.getD p [])] (s.set p 1)+1) [(p,N.getD p [])] (s.set p 1) o ((hf.push hp).set hp (by decide));refine⟨aA this.1 ?_,this.2⟩;have h1:=AV N s 0 p;unfold kP;rw[qP];have h2:Xo []=0:=rfl
 simp only
 omega
theorem Kk(hN:∀i,∀n∈N.getD i [],n<N.length):qX N [] (jP N.length) where
 len:=by simp[jP]
 three:=fun i=>by
  unfold jP;rw[cZ,II]
  split<;>simp
 stk:=fun x hx=>by cases hx
 needs:=hN
theorem Uq(hN:vF w gN N)(hl:N.length<=1000)(hs:∀i,∀n∈N.getD i [],n<N.length)(h3:∀i,(N.getD i []).length<=30000):
  Calls Tryz.prog 69 #[.slice (some ⟨gN,0,none⟩) N.length cN] w fun e w'=>e=.returned (.bool (zS N (List.range N.length) (jP N.length) []))/\Below w.heap.size w w':=by
 have Eu:Hid (Calls Tryz.prog 71 #[.slice (some ⟨gN,0,none⟩) N.length cN] w fun e w'=>∃wb gs,e=.returned (.pointer (some ⟨wb,0,none⟩))/\tY w wb gN cN gs N.length N (.slice none 0 0) (jP N.length) [] w'):=Ih hN hl;obtain⟨R,hR⟩:∃R,R=zS N (List.range N.length) (jP N.length) []:=⟨_,rfl⟩;rw[<-hR];have HR:=aP hR.symm;have H3:=aP h3;have HF:Hid (qX N [] (jP N.length)/\N.length<=1000):=⟨Kk hs,hl⟩
 have HZ:Hid (fG N (jP N.length) 0<=1000*30002):=by
  have:=En N h3 (jP N.length) 0;simp only[jP,List.length_replicate] at this⊢;show _<=_;omega
 clear hR hN hs h3;generalize hNL:N.length=NL at*;have CY:=aP hNL;clear hNL
 have n1:(NL:Int)<=1000:=by omega
 go_enter Tryz.func69,Tryz.ntmps69
 go_wp2_with fail
 refine Eu.out.mono ?_;rintro e w1 ⟨wb,gs,rfl,hwk⟩;have HWK:=aP hwk;clear hwk Eu
 go_wp2_with fail
 go_loopw [9] (fun i wr=>∃(j:Nat) (vo:Value) (s o:List Nat),i=.int .i64 j/\j<=NL/\tY w wb gN cN gs NL N vo s o wr/\qX N [] s/\zS N ((List.range NL).drop j) s o=R/\o.length+fG N s 0<=1000*30002+j*30001) (fun i _=>NL-(intOf i).toNat)
 case atStart=>exact⟨0,_,_,[],rfl,aN _,HWK.out,HF.out.1,HR.out,by have:=HZ.out;simp only[dR];omega⟩
 case round=>
  obtain⟨j,vo,s,o,rfl,hj,hwk,hfi,hrun,hbd⟩:=hrel;clear HWK;have HWK:=aP hwk;have HJ:=aP (aK hfi (aK hrun hbd));clear hfi hrun hbd
  have j0:(0:Int)<=(j:Int):=by omega
  by_cases hlt:j<NL
  ·have j1:(j:Int)<(NL:Int):=by omega
   have HVI:Hid (Calls Tryz.prog 72 #[.pointer (some ⟨wb,0,none⟩),.int .i64 (j:Nat)] wr fun e w'=>e=.returned (.bool (fU N j s o).1)/\∃vo',tY w wb gN cN gs NL N vo' (fU N j s o).2.1 (fU N j s o).2.2 w'):=Pf (by have:=hwk;rw[<-CY.out] at this⊢;exact this) HJ.out.1 (by rw[CY.out];exact hlt) (by rw[CY.out];exact HF.out.2) (by have:=HJ.out.2.2;have:=H3.out j;omega);have hvb:=Iu (o:=o) HJ.out.1 (show j<N.length by rw[CY.out];exact hlt)
   have hdr:zS N ((List.range NL).drop j) s o=if (fU N j s o).1=true then zS N ((List.range NL).drop (j+1)) (fU N j s o).2.1 (fU N j s o).2.2 else false:=by
    rw[fA (by simpa using hlt),List.getElem_range];rfl
   have HVB:Hid ((fU N j s o).2.2.length+fG N (fU N j s o).2.1 0<=1000*30002+(j+1)*30001/\qX N [] (fU N j s o).2.1):=⟨by have:=HJ.out.2.2;have:=H3.out j;have:=hvb.1;omega,hvb.2⟩;have HDR:Hid ((if (fU N j s o).1=true then zS N ((List.range NL).drop (j+1)) (fU N j s o).2.1 (fU N j s o).2.2 else false)=R):=hdr.symm.trans HJ.out.2.1;clear hvb hdr hwk;generalize fU N j s o=V at*;obtain⟨vb,vs,vo2⟩:=V;simp only at HVI HVB HDR
   go_wp2_with fail
   refine HVI.out.mono ?_;rintro e w2 ⟨rfl,vo3,abz⟩;have HW3:=aP abz;clear abz HVI
   cases vb with
   |false=>
    have hRf:false=R:=HDR.out;subst hRf;clear HDR HR
    go_wp2
    go_ret;exact⟨rfl,HW3.out.bl⟩
   |true=>
    go_wp2
    go_roundw
    case rel=>
     first
      |exact⟨j+1,vo3,vs,vo2,by go_num,by omega,HW3.out,HVB.out.2,HDR.out,HVB.out.1⟩
      | ((repeat apply Exists.intro);exact⟨⟨j+1,vo3,vs,vo2,by go_num,by omega,HW3.out,HVB.out.2,HDR.out,HVB.out.1⟩,rfl⟩)
    case measure=>simp[intOf];omega
  obtain rfl:j=NL:=by omega
  have hRt:true=R:=by have:=HJ.out.2.1;rw[yV (by simp)] at this;exact this
  subst hRt;clear HR
  go_wp2
  go_ret;exact⟨rfl,HWK.out.bl⟩
