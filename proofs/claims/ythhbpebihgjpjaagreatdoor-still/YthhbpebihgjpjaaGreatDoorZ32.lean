import Derived.Test.YthhbpebihgjpjaaGreatDoorZ20
namespace Go.Proofs.YthhbpebihgjpjaaGreatDoor
set_option maxRecDepth 1000000
set_option maxHeartbeats 20000000
set_option linter.all false
section
open Go.RowKit Go.Maps
variable {w w':ak}{B b:Nat}
theorem jP(hg:w.grownBy w' (some b))(hb:B<=b)(hB:B<=w.heap.size):Below B w w':=(ay B w).grown hg hB (fun k hk=>by rw[<-ax hk];exact hb)
variable {p:PV}{a:Nat->Addr}{rb m:Nat}{n:Int}{ls ls':List dQ}{S:St}
theorem PStB.turn{p':PV}{n':Int}{FI:Value}(h:PStB p a B w rb n ls S m)(hg:w.grownBy w' (some rb))(hp:p'={p with vl:=FI})(hrow:aeI p' w' rb n')(hl:∀w,Ag w p.vl ls->Ag w FI ls')(hok:SOk S m ls'):PStB p' a B w' rb n' ls' S m:=by
 have hB:B<=w.heap.size:=aC h.vY (iR h.ql)
 have hne:∀k,k<w.heap.size->p.c k≠1->w'.heap[k]?=w.heap[k]?:=fun k hk hc=>hg.block k hk (fun e=>hc (by rw[ax e];exact h.c1))
 subst hp
 exact {
  gl:=h.gl.keep hg.size (fun k hk=>hne k (aB hk h.gl.size) (by have:=h.low k (aB hk h.base);omega))
  base:=h.base
  row:=hrow
  const:=fun w'' hs hk=>by
   have:=h.const w'' (aC hg.size hs) (fun k h1 h2=>(hk k (aB h1 hg.size) h2).trans (hne k h1 (by have:=(show p.c k=0 from h2);omega)));exact⟨hl _ this.1,this.2⟩
  top:=eu.keep h.top (hne p.tb h.top.lt (by rw[h.c2];decide))
  rules:=eu.keep h.rules (hne p.rm h.rules.lt (by rw[h.c3];decide))
  mlt:=aB h.mlt (hg.size)
  jR:=dR h.jR (fun k hk=>hne k (bF h.jR k hk).2 (by have:=h.c5 k hk;omega))
  defs:=dR h.defs (fun k hk=>hne k (bF h.defs k hk).2 (by have:=h.c6 k hk;omega))
  c1:=h.c1,c2:=h.c2,c3:=h.c3,c4:=h.c4,c5:=h.c5,c6:=h.c6,low:=h.low
  few:=h.few
  ok:=hok}
theorem SOk.less(h:SOk S m ls)(hm:∀x∈ls',x∈ls)(hl:ls'.length<=ls.length):SOk S m ls':=
 {h with lines:=fun x hx=>h.lines x (hm x hx),count:=aC hl h.count}
theorem Uw(b o L cap:Nat)(h:L+1<=cap):∃o',(∀k,k<L->o'+k*2=o+2+k*2)/\∀wx,(Instr.slice 198 (.slice (some ⟨b,o,none⟩) (L+1) cap) (some (.int .i64 1)) none none).run Tryz.prog wx=.ok (.slice (some ⟨b,o',none⟩) L (cap-1)) wx:=by
 by_cases hc:cap=1
 ·subst hc
  obtain rfl:L=0:=aJ
  exact⟨o,fun k hk=>aJ,fun wx=>dD⟩
 refine⟨o+2,fun k _=>rfl,fun wx=>?_⟩
 simp[Instr.slice,ny Tryz.underlying198,go_sem,hc]
 intro hh;omega
theorem Oh(w:ak)(rb:Nat)(v0 v1:Value)(o:Obj):w.grownBy (((w.setCell ⟨rb,1,none⟩ v1).setCell ⟨rb,0,none⟩ v0).alloc o).drew (some rb):=by
 have hs:((w.setCell ⟨rb,1,none⟩ v1).setCell ⟨rb,0,none⟩ v0).heap.size=w.heap.size:=eB
 refine⟨rfl,rfl,rfl,?_,fun k hk hn=>?_⟩
 ·show w.heap.size<=(((w.setCell ⟨rb,1,none⟩ v1).setCell ⟨rb,0,none⟩ v0).alloc o).heap.size
  simp
 show(((w.setCell ⟨rb,1,none⟩ v1).setCell ⟨rb,0,none⟩ v0).alloc o).heap[k]?=_
 have hne:k≠rb:=fun e=>hn (by rw[e])
 rw[bC _ _ k aJ,au _ _ _ _ hne,au _ _ _ _ hne]
variable {rest:List dQ}
theorem OZ{x:dQ}(h:PStB p a B w rb n (x::rest) S m):
  Calls Tryz.prog 192 #[.pointer (some ⟨rb,0,none⟩)] w fun e w'=>e=.returned (.string x.2)/\(∃FI,PStB {p with vl:=FI} a B w' rb (x.1:Nat) rest S m)/\w.grownBy w' (some rb):=by
 have H:=aV h;obtain⟨ao,cap,hvl,hc,hl⟩:=h.const.now.1
 obtain⟨g,o,rfl,hl2⟩:∃g o,ao=some ⟨g,o,none⟩/\∀k y,(x::rest)[k]?=some y->w.cell? ⟨g,o+k*2,none⟩=some (.int .i64 (y.1:Nat))/\w.cell? ⟨g,o+k*2+1,none⟩=some (.string y.2):=by
  rcases hl with e|e
  ·cases e
  exact e
 have h0:=hl2 0 x rfl;simp only[qo,kX] at h0;have d0:=h0.1;have d1:=h0.2;have hgl:g<w.heap.size:=aG d0;obtain⟨o',ho',hsl⟩:=Uw g o rest.length cap (by simpa using hc)
 have c1:w.cell? ⟨rb,1,none⟩=some (.slice (some ⟨g,o,none⟩) (rest.length+1) cap):=by
  rw[aj _ _ _ _ _ _ h.row];exact ig some hvl
 have c0:=h.Ji;have f0:w.frozen? ⟨rb,0,none⟩=false:=aD _ _ _ _ _ h.row;have f1:w.frozen? ⟨rb,1,none⟩=false:=aD _ _ _ _ _ h.row;have hrb:=h.ql;obtain⟨xn,xt⟩:=x;simp only at d0 d1;clear h h0 hl;have HL2:=aV hl2;clear hl2
 go_enter Tryz.func192,Tryz.ntmps192
 go_wp2_with fail
 have HFIN:Hid (∃FI,PStB {p with vl:=FI} a B (((w.setCell ⟨rb,1,none⟩ (.slice (some ⟨g,o',none⟩) rest.length (cap-1))).setCell ⟨rb,0,none⟩ (.int .i64 (xn:Nat))).alloc (.cells #[.int .i64 (xn:Nat),.string xt] 305)).drew rb (xn:Nat) rest S m):=by
  refine⟨.slice (some ⟨g,o',none⟩) rest.length (cap-1),H.out.turn (Oh w rb _ _ _) rfl ?_ ?_ (H.out.ok.less (fun x hx=>aZ _ hx) (fH _))⟩
  ·show(((w.setCell ⟨rb,1,none⟩ _).setCell ⟨rb,0,none⟩ _).alloc _).heap[rb]?=_;rw[bC _ _ rb (by simpa using hrb),aR _ _ _ _ _ _ (aR _ _ _ _ _ _ H.out.row)];rfl
  intro w' hw';obtain⟨ao2,cap2,e2,hc2,h2⟩:=hw';rw[hvl] at e2;injection e2 with e2 e3 e4;subst e2 e4;refine⟨_,_,rfl,(by have:rest.length+1<=cap:=(by simpa using hc);omega),?_⟩
  rcases h2 with e|⟨g2,o2,e,h2⟩
  ·cases e
  injection e with e;injection e with e5 e6 _;subst e5 e6
  by_cases hr:rest=[]
  ·exact aK hr
  refine aP ⟨g,o',rfl,fun k y hy=>?_⟩;have hk:k<rest.length:=(aN.1 hy).1;have:=h2 (k+1) y (by simpa using hy);rw[show o+(k+1)*2=o'+k*2 by rw[ho' k hk];omega] at this;exact this
 have Rt:Hid (w.grownBy (((w.setCell ⟨rb,1,none⟩ (.slice (some ⟨g,o',none⟩) rest.length (cap-1))).setCell ⟨rb,0,none⟩ (.int .i64 (xn:Nat))).alloc (.cells #[.int .i64 (xn:Nat),.string xt] 305)).drew (some rb)):=Oh w rb _ _ _
 go_region
 all_goals
  go_wp2_with fail
  go_ret;exact⟨rfl,HFIN.out,Rt.out⟩
theorem Me{x:dQ}(h:iF p a B w rb n (x::rest) S m):
  Calls Tryz.prog 192 #[.pointer (some ⟨rb,0,none⟩)] w fun e w'=>e=.returned (.string x.2)/\(∃FI,iF {p with vl:=FI} a B w' rb (x.1:Nat) rest S m)/\w.grownBy w' (some rb):=by
 refine(OZ h.toPStB).mono ?_;rintro e w' ⟨h1,⟨FI,h2⟩,h3⟩;exact⟨h1,⟨FI,h2,eu.keep h.made (h3.block p.mm h.made.lt (fun e=>by have h4:=h.c4;have h5:=h.c1;rw[ax e] at h4;omega))⟩,h3⟩
theorem JR(h:PStB p a B w rb n ls S m):
  Calls Tryz.prog 263 #[.pointer (some ⟨rb,0,none⟩)] w fun e w'=>e=.returned (.bool (iw ls).isSome)/\w'=w:=by
 have c1:w.cell? ⟨rb,1,none⟩=some p.vl:=by rw[aj _ _ _ _ _ _ h.row];rfl
 obtain⟨ao,cap,hvl,hc,hl⟩:=h.const.now.1;rw[hvl] at c1;clear hvl
 cases ls with
 |nil=>
  simp only[dY] at c1;clear h hl
  go_enter Tryz.func263,Tryz.ntmps263
  go_wp2_with fail
  go_ret;exact⟨rfl,rfl⟩
 |cons x rest=>
  obtain⟨g,o,rfl,hl2⟩:∃g o,ao=some ⟨g,o,none⟩/\∀k y,(x::rest)[k]?=some y->w.cell? ⟨g,o+k*2,none⟩=some (.int .i64 (y.1:Nat))/\w.cell? ⟨g,o+k*2+1,none⟩=some (.string y.2):=by
   rcases hl with e|e
   ·cases e
   exact e
  have d1:=(hl2 0 x rfl).2;simp only[qo,kX] at d1
  have HI:Hid ((iw (x::rest)).isSome=gq x.2 32):=by
   show(if gq x.2 32=true then some (x,rest) else none).isSome=_
   cases gq x.2 32<;>rfl
  have RG:Hid (∀wx,Calls Tryz.prog 193 #[.string x.2,.string ⟨#[32]⟩] wx fun e w'=>e=.returned (.bool (gq x.2 32))/\w'=wx):=fun wx=>pW x.2 32 wx
  have hp:(0:Int)<((x::rest).length:Int):=eB
  clear h hl hl2;generalize (x::rest).length=N at*;generalize gq x.2 32=bb at*
  go_enter Tryz.func263,Tryz.ntmps263
  go_wp2_with fail
  refine(RG.out _).mono ?_;rintro e w1 ⟨rfl,rfl⟩
  go_wp2_with fail
  go_ret;exact⟨by rw[HI.out];rfl,rfl⟩
theorem ul(h:iF p a B w rb n ls S m):
  Calls Tryz.prog 263 #[.pointer (some ⟨rb,0,none⟩)] w fun e w'=>e=.returned (.bool (iw ls).isSome)/\w'=w:=JR h.toPStB
theorem sQ(y:ah×ah)(l:iH)(x:ah):eT (y::l) x=if y.1=x then some y.2 else eT l x:=by
 unfold eT;rw[List.find?_cons]
 by_cases h:y.1=x
 ·rw[aH h,bT h];rfl
 rw[aA h,bM h]
theorem uW(x v y:ah):∀l:iH,eT (pG l x v) y=if y=x then some v else eT l y
 |[]=>by
  rw[pG,sQ]
  by_cases h:x=y
  ·rw[aH h,aH h.symm]
  rw[aA h,aA (fun e=>h e.symm)]
 |z::l=>by
  rw[pG]
  by_cases hz:z.1=x
  ·rw[aH hz,sQ,sQ]
   by_cases h:x=y
   ·rw[aH h,aH h.symm]
   rw[aA h,aA (fun e=>h e.symm),aA (fun e=>h (hz.symm.trans e))]
  rw[aA hz,sQ,uW x v y l,sQ]
  by_cases h:z.1=y
  ·rw[aH h,aA (fun e=>hz (h.trans e)),aH h]
  rw[aA h,aA h]
variable {x v:ah}
theorem wH.set{n:Nat}{l:iH}(h:eu UI yN w' b n (fun y=>if y=x then some (wD v) else (eT l y).map wD)):wH w' b n (pG l x v):=by
 have e:(fun y=>if y=x then some (wD v) else (eT l y).map wD)=fun y=>(eT (pG l x v) y).map wD:=by
  funext y
  rw[uW]
  by_cases h:y=x
  ·rw[aH h,aH h];rfl
  rw[aA h,aA h]
 unfold wH;rw[<-e];exact h
variable {w1 w2:ak}
theorem SK(hb:Below w.heap.size w w1)(hg:w1.grownBy w2 (some b)):w.grownBy w2 (some b):=
 ⟨hg.os.trans hb.os,hg.tape.trans hb.tape,hg.output.trans hb.output,aC hb.size hg.size,fun k hk hn=>(hg.block k (aB hk hb.size) hn).trans (hb.block k hk)⟩
theorem Kr(hg:w.grownBy w1 (some b))(hb:Below w1.heap.size w1 w2):w.grownBy w2 (some b):=
 ⟨hb.os.trans hg.os,hb.tape.trans hg.tape,hb.output.trans hg.output,aC hg.size hb.size,fun k hk hn=>(hb.block k (aB hk hg.size)).trans (hg.block k hk hn)⟩
variable {sb tb:Nat}{q:Value}
theorem Rc{n:Nat}{l:iH}(hr:w.heap[sb]?=some (.cells #[.map (some tb),q] 302 (0,0)))(hm:wH w tb n l)(hn:n<=1048576)(hx:x.size<=1048576):
  Calls Tryz.prog 199 #[.pointer (some ⟨sb,0,none⟩),.string x,.string v] w fun e w'=>e=.returned (.tuple #[])/\wH w' tb (n+1) (pG l x v)/\w.grownBy w' (some tb):=by
 obtain⟨w2,hrun,hst,hg⟩:=eu.store hm (t:=300) Tryz.underlying300 (by unfold maxLen;omega) x (by unfold maxLen;omega) (wD v) (UK v);have anA:(Instr.mapUpdate 300 (.map (some tb)) (.string x) (.agg #[.string v])).run Tryz.prog w=.ok () w2:=hrun;have HB:Hid (wH w2 tb (n+1) (pG l x v)/\w.grownBy w2 (some tb)):=⟨wH.set hst,hg⟩
 have c0:w.cell? ⟨sb,0,none⟩=some (.map (some tb)):=by rw[aj _ _ _ _ _ _ hr];rfl
 clear hrun hst hg hr hm
 go_enter Tryz.func199,Tryz.ntmps199
 go_wp2
 go_end0
 exact⟨rfl,HB.out⟩
def GU(E:ah->ah)(t:ah):Option (ah×ah):=match pR t with
 |none=>none
 |some nv=>(iE E nv.2).map fun y=>(nv.1,y)
variable {t:ah}
theorem xU{nv:ah×ah}(h:pR t=some nv):nv.1.size<=t.size/\nv.2.size<=t.size/\0<nv.1.size:=by
 unfold pR at h
 split at h
 ·cases h
 rename_i hc
 obtain rfl:=ax h;have h1:=kG t;have h2:dB (bI t)<=(bI t).size:=kg _ _;have h3:=kG ((bI (gV (bI t))).extract 1 (bI (gV (bI t))).size);have h4:=kG (gV (bI t));have h5:=yj (bI t);rw[aM] at h3;refine⟨?_,?_,?_⟩
 ·show(fE (bI t)).size<=_;rw[mh];omega
 ·show(bI _).size<=_;omega
 show 0<(fE (bI t)).size;rw[mh];omega
theorem zS{n0:Nat}{l:iH}{ls:List iH}(h0:w.cell? ⟨rb,0,none⟩=some (.int .i64 n))(hg:Gl a w)(ht:t.size<=4000)(hr:w.heap[sb]?=some (.cells #[.map (some tb),q] 302 (0,0)))(hm:wH w tb n0 l)(hn:n0<=5000)(hs:lY w (.pointer (some ⟨sb,0,none⟩)) (l::ls))(hE:∀m∈l::ls,BOk m):
  Calls Tryz.prog 198 #[.pointer (some ⟨rb,0,none⟩),.string t,.pointer (some ⟨sb,0,none⟩)] w fun e w'=>match GU (gK (l::ls)) t with
   |none=>jF n (ja a 4) e w'/\Below w.heap.size w w'
   |some xy=>e=.returned (.tuple #[])/\wH w' tb (n0+1) (pG l xy.1 xy.2)/\w.grownBy w' (some tb):=by
 have FQ:Hid (Calls Tryz.prog 270 #[.pointer (some ⟨rb,0,none⟩),.string t] w fun e w'=>XO a n (pR t) e w'/\Below w.heap.size w w'):=qA rb n t a w h0 hg aJ
 have HV:Hid (GU (gK (l::ls)) t=match pR t with
  |none=>none
  |some nv=>(iE (gK (l::ls)) nv.2).map fun y=>(nv.1,y)):=rfl
 have HSZ:Hid (∀nv,pR t=some nv->nv.1.size<=t.size/\nv.2.size<=t.size):=fun nv h=>⟨(xU h).1,(xU h).2.1⟩
 cases hb:pR t with
 |none=>
  rw[hb] at FQ HV;rw[HV.out]
  go_enter Tryz.func198,Tryz.ntmps198
  go_wp2_with fail
  refine FQ.out.mono ?_;rintro e w1 ⟨⟨b,rfl,s0,s1⟩,hb1⟩;exact⟨rfl,⟨b,rfl,s0,s1⟩,hb1⟩
 |some nv=>
  obtain⟨x,v⟩:=nv;have hsz:=HSZ.out _ hb;rw[hb] at FQ HV;simp only at hsz
  have HX:Hid (∀w1,Below w.heap.size w w1->Calls Tryz.prog 201 #[.pointer (some ⟨rb,0,none⟩),.string v,.pointer (some ⟨sb,0,none⟩)] w1 fun e w'=>VT a n (iE (gK (l::ls)) v) e w'/\Below w1.heap.size w1 w'):=fun w1 hb1=>
   xX rb n v (l::ls) _ a w1 ((hb1.cell (p:=⟨rb,0,none⟩) (aG h0)).trans h0) (hs.keep hb1.block) (hg.keep hb1.size (fun k hk=>hb1.block k (aB hk hg.size))) aJ (fun y=>aC (Ob hE y) aJ) (Sw hE)
  have akL:Hid (∀w2 y,Below w.heap.size w w2->Calls Tryz.prog 199 #[.pointer (some ⟨sb,0,none⟩),.string x,.string y] w2 fun e w'=>e=.returned (.tuple #[])/\wH w' tb (n0+1) (pG l x y)/\w2.grownBy w' (some tb)):=fun w2 y hb2=>
   Rc ((hb2.block sb (bN hr)).trans hr) (eu.keep hm (hb2.block tb hm.lt)) aJ aJ
  clear hs hE h0 hg hr hm
  cases hx:iE (gK (l::ls)) v with
  |none=>
   rw[hx] at HX
   have HVN:Hid (GU (gK (l::ls)) t=none):=by rw[HV.out];show(iE (gK (l::ls)) v).map _=_;rw[hx];rfl
   rw[HVN.out]
   go_enter Tryz.func198,Tryz.ntmps198
   go_wp2_with fail
   refine FQ.out.mono ?_;rintro e w1 ⟨rfl,hb1⟩
   go_wp2_with fail
   refine(HX.out w1 hb1).mono ?_;rintro e w2 ⟨⟨b,rfl,s0,s1⟩,hb2⟩;exact⟨rfl,⟨b,rfl,s0,s1⟩,hb1.trans (hb2.mono hb1.size)⟩
  |some y=>
   rw[hx] at HX
   have HVN:Hid (GU (gK (l::ls)) t=some (x,y)):=by rw[HV.out];show(iE (gK (l::ls)) v).map _=_;rw[hx];rfl
   rw[HVN.out]
   go_enter Tryz.func198,Tryz.ntmps198
   go_wp2_with fail
   refine FQ.out.mono ?_;rintro e w1 ⟨rfl,hb1⟩
   go_wp2_with fail
   refine(HX.out w1 hb1).mono ?_;rintro e w2 ⟨rfl,hb2⟩
   go_wp2_with fail
   refine(akL.out w2 y (hb1.trans (hb2.mono hb1.size))).mono ?_;rintro e w3 ⟨rfl,hm3,hg3⟩;have HF:Hid (wH w3 tb (n0+1) (pG l x y)/\w.grownBy w3 (some tb)):=⟨hm3,SK (hb1.trans (hb2.mono hb1.size)) hg3⟩;clear hm3 hg3 hb1 hb2
   go_wp2_with fail
   go_end0
   exact⟨rfl,HF.out⟩
theorem Gm(top:iH):Dj [] top=gK [top]:=by
 funext x
 show((eT [] x).or (eT top x)).getD _=(eT top x).getD _;rfl
theorem Oc(own top:iH):Dj own top=gK [own,top]:=by
 funext x
 show((eT own x).or (eT top x)).getD _=(eT own x).getD ((eT top x).getD _)
 cases eT own x<;>rfl
def EH(t:ah):Option ah:=match pR t with
 |none=>none
 |some nv=>if nv.1≠yh\/iE Gy nv.2=none then none else some nv.2
theorem Oa:gK []=Gy:=rfl
theorem Bg{x:dQ}(h:iF p a B w rb n (x::rest) S m):
  Calls Tryz.prog 264 #[.pointer (some ⟨rb,0,none⟩)] w fun e w'=>match EH x.2 with
   |none=>jF (x.1:Nat) (ja a 4) e w'/\Below B w w'
   |some v=>e=.returned (.string v)/\(∃FI,iF {p with vl:=FI} a B w' rb (x.1:Nat) rest S m)/\w.grownBy w' (some rb):=by
 have HT:=aV (Me h);have hts:x.2.size<=4000:=h.ok.lines x aQ
 have Rn:Hid (∀w',w.grownBy w' (some rb)->Below B w w'):=fun w' hg=>jP hg h.vY (aC h.vY (iR h.ql))
 have HBw:=aV (aC h.vY (iR h.ql))
 have HC:Hid (EH x.2=match pR x.2 with
  |none=>none
  |some nv=>if nv.1≠yh\/iE Gy nv.2=none then none else some nv.2):=rfl
 have HSZ:Hid (∀nv,pR x.2=some nv->nv.2.size<=x.2.size):=fun nv h=>(xU h).2.1
 obtain⟨xn,xt⟩:=x;simp only at hts HC HSZ HT
 show Calls _ _ _ _ fun e w'=>match EH xt with
  |none=>jF (xn:Nat) (ja a 4) e w'/\Below B w w'
  |some v=>e=.returned (.string v)/\(∃FI,iF {p with vl:=FI} a B w' rb (xn:Nat) rest S m)/\w.grownBy w' (some rb)
 clear h
 cases hb:pR xt with
 |none=>
  rw[hb] at HC;rw[HC.out]
  go_enter Tryz.func264,Tryz.ntmps264
  go_wp2_with fail
  refine HT.out.mono ?_;rintro e w1 ⟨rfl,⟨FI,hp1⟩,hg1⟩;have FQ:=qA rb (xn:Nat) xt a w1 hp1.Ji hp1.gl aJ;rw[hb] at FQ;have HB1:=aV (Rn.out w1 hg1);clear hp1 hg1
  go_wp2_with fail
  refine FQ.mono ?_;rintro e w2 ⟨⟨b,rfl,s0,s1⟩,hb2⟩;exact⟨rfl,⟨b,rfl,s0,s1⟩,HB1.out.trans (hb2.mono (aC HBw.out HB1.out.size))⟩
 |some nv=>
  obtain⟨k,v⟩:=nv;have hvs:=HSZ.out _ hb;rw[hb] at HC;simp only at HC hvs
  by_cases hk:k=yh
  ·subst hk
   cases hx:iE Gy v with
   |none=>
    have HN:Hid (EH xt=none):=by rw[HC.out,aH (aP hx)];rfl
    rw[HN.out]
    go_enter Tryz.func264,Tryz.ntmps264
    go_wp2_with fail
    refine HT.out.mono ?_;rintro e w1 ⟨rfl,⟨FI,hp1⟩,hg1⟩;have FQ:=qA rb (xn:Nat) xt a w1 hp1.Ji hp1.gl aJ;rw[hb] at FQ;have HB1:=aV (Rn.out w1 hg1);have tK:=aV hp1;clear hp1 hg1
    go_wp2_with fail
    refine FQ.mono ?_;rintro e w2 ⟨rfl,hb2⟩;have qw:=tK.out.below hb2;have c4:w2.cell? ⟨4,0,none⟩=some (.iface 472 (.pointer (some (a 4)))):=qw.gl.errs 4 bS;have HX:=xX rb (xn:Nat) v [] (.pointer none) a w2 qw.Ji rfl qw.gl aJ (fun x=>aS _) rfl;rw[Oa,hx] at HX;have HB2:=aV (HB1.out.trans (hb2.mono (aC HBw.out HB1.out.size)));clear qw hb2 FQ tK;unfold yh
    go_wp2_with fail
    refine(gL _ _ _).mono ?_;rintro e w3 ⟨rfl,rfl⟩
    go_wp2_with fail
    refine HX.mono ?_;rintro e w4 ⟨⟨b,rfl,s0,s1⟩,hb4⟩;exact⟨rfl,⟨b,rfl,s0,s1⟩,HB2.out.trans (hb4.mono (aC HBw.out HB2.out.size))⟩
   |some y=>
    have HN:Hid (EH xt=some v):=by rw[HC.out,aA (by rw[hx];simp)];rfl
    rw[HN.out]
    go_enter Tryz.func264,Tryz.ntmps264
    go_wp2_with fail
    refine HT.out.mono ?_;rintro e w1 ⟨rfl,⟨FI,hp1⟩,hg1⟩;have FQ:=qA rb (xn:Nat) xt a w1 hp1.Ji hp1.gl aJ;rw[hb] at FQ;have tK:=aV hp1;have HG1:=aV hg1;clear hp1 hg1
    go_wp2_with fail
    refine FQ.mono ?_;rintro e w2 ⟨rfl,hb2⟩;have qw:=tK.out.below hb2;have akG:Hid (iF {p with vl:=FI} a B w2 rb (xn:Nat) rest S m):=qw;have c4:w2.cell? ⟨4,0,none⟩=some (.iface 472 (.pointer (some (a 4)))):=qw.gl.errs 4 bS;have HX:=xX rb (xn:Nat) v [] (.pointer none) a w2 qw.Ji rfl qw.gl aJ (fun x=>aS _) rfl;rw[Oa,hx] at HX;have HG2:=aV (Kr HG1.out hb2);clear qw hb2 FQ tK HG1;unfold yh
    go_wp2_with fail
    refine(gL _ _ _).mono ?_;rintro e w3 ⟨rfl,rfl⟩
    go_wp2_with fail
    refine HX.mono ?_;rintro e w4 ⟨rfl,hb4⟩;have HF:Hid ((∃FI,iF {p with vl:=FI} a B w4 rb (xn:Nat) rest S m)/\w.grownBy w4 (some rb)):=⟨⟨FI,akG.out.below hb4⟩,Kr HG2.out hb4⟩;clear hb4 HX
    go_wp2_with fail
    go_ret;exact⟨rfl,HF.out⟩
  have HN:Hid (EH xt=none):=by rw[HC.out,aH (aK hk)];rfl
  have hq:(k.toList==[99,111,109,109,97,110,100])=false:=by
   have e:(⟨#[99,111,109,109,97,110,100]⟩:ah).toList=[99,111,109,109,97,110,100]:=by rw[eG]
   rw[<-e]
   cases hq:(k.toList==(⟨#[99,111,109,109,97,110,100]⟩:ah).toList) with
   |true=>exact absurd (xL hq) hk
   |false=>rfl
  rw[HN.out]
  go_enter Tryz.func264,Tryz.ntmps264
  go_wp2_with fail
  refine HT.out.mono ?_;rintro e w1 ⟨rfl,⟨FI,hp1⟩,hg1⟩;have FQ:=qA rb (xn:Nat) xt a w1 hp1.Ji hp1.gl aJ;rw[hb] at FQ;have HB1:=aV (Rn.out w1 hg1);have tK:=aV hp1;clear hp1 hg1
  go_wp2_with fail
  refine FQ.mono ?_;rintro e w2 ⟨rfl,hb2⟩;have qw:=tK.out.below hb2;have c4:w2.cell? ⟨4,0,none⟩=some (.iface 472 (.pointer (some (a 4)))):=qw.gl.errs 4 bS;have uT:=pz rb (xn:Nat) 472 (.pointer (some (a 4))) w2 qw.Ji;have HB2:=aV (HB1.out.trans (hb2.mono (aC HBw.out HB1.out.size)));clear qw hb2 FQ tK
  go_wp2_with fail
  refine uT.mono ?_;rintro e w4 ⟨⟨b,rfl,s0,s1⟩,hb4⟩;exact⟨rfl,⟨b,rfl,s0,s1⟩,HB2.out.trans (hb4.mono (aC HBw.out HB2.out.size))⟩
def BG(b:FO):Nat:=Fin.val b
def iQ(a:Nat->Addr)(B rb m:Nat)(w:ak)(r:Res)(e:Ending)(w':ak):Prop:=match r with
 |.error bk=>jF (bk.2:Nat) (ja a (BG bk.1)) e w'/\Below B w w'
 |.ok Sr=>e=.returned (.tuple #[])/\(∃p n,iF p a B w' rb n Sr.2 Sr.1 m)/\Below B w w'
theorem ab7{l:iH}(h:eT l x=none):pG l x v=l++[(x,v)]:=by
 induction l with
 |nil=>rfl
 |cons y l ih=>
  rw[sQ] at h
  by_cases hy:y.1=x
  ·rw[aH hy] at h;cases h
  rw[aA hy] at h;rw[pG,aA hy,ih h];rfl
variable {i:Nat}
theorem PStB.off(_:PStB p a B w rb n ls S m)(hg:w.grownBy w' (some b))(hb:p.c b=i){k:Nat}(hk:k<w.heap.size)(hc:p.c k≠i):w'.heap[k]?=w.heap[k]?:=hg.block k hk (fun e=>hc (by rw[ax e];exact hb))
theorem iF.adp(h:iF p a B w rb n ls S (m+1))(hg:w.grownBy w' (some p.rm))(hm:wH w' p.rm (p.n2+1) (pG S.rules x v))(hx:eT S.rules x=none)(hv:v.size<=4000):iF {p with n2:=p.n2+1} a B w' rb n ls {S with rules:=S.rules++[(x,v)]} m:=by
 have off:=fun {k:Nat} (hk:k<w.heap.size) (hc:p.c k≠3)=>h.off hg h.c3 hk hc
 exact {
  gl:=h.gl.keep hg.size (fun k hk=>off (aB hk h.gl.size) (by rw[h.low k (aB hk h.base)];decide))
  base:=h.base
  row:=(off h.ql (by rw[h.c1];decide)).trans h.row
  const:=h.const.step hg.size (fun k hk h0=>⟨off hk (by rw[h0];decide),h0⟩)
  top:=eu.keep h.top (off h.top.lt (by rw[h.c2];decide))
  rules:=by rw[ab7 hx] at hm;exact hm
  mlt:=aB h.mlt (hg.size)
  made:=eu.keep h.made (off h.made.lt (by rw[h.c4];decide))
  jR:=dR h.jR (fun k hk=>off (bF h.jR k hk).2 (by rw[h.c5 k hk];decide))
  defs:=dR h.defs (fun k hk=>off (bF h.defs k hk).2 (by rw[h.c6 k hk];decide))
  c1:=h.c1,c2:=h.c2,c3:=h.c3,c4:=h.c4,c5:=h.c5,c6:=h.c6,low:=h.low
  few:=by show p.n1+m<=5000/\p.n2+1+m<=5000/\p.n3+8000*m<=40000000;have:=h.few;omega
  ok:={top:=h.ok.top,Mi:=(by show S.top.length+m<=5000;have:=h.ok.Mi;omega),rules:=(fun y hy=>by
       rcases bQ.1 hy with hy|hy
       ·exact h.ok.rules y hy
       obtain rfl:=bD.1 hy
       exact hv),Ca:=(by show(S.rules++[(x,v)]).length+m<=5000;rw[aI];have:=h.ok.Ca;show _+1+m<=_;omega),bG:=h.ok.bG,edge:=h.ok.edge,defs:=(by show S.defs.length+4000*m<=_;have:=h.ok.defs;omega),lines:=h.ok.lines,count:=h.ok.count}}
variable {m':Nat}
theorem PStB.fewer(h:PStB p a B w rb n ls S m)(hm:m'<=m):PStB p a B w rb n ls S m':=
 {h with
  few:=by have:=h.few;omega
  ok:={h.ok with Mi:=(by have:=h.ok.Mi;omega),Ca:=(by have:=h.ok.Ca;omega),defs:=(by have:=h.ok.defs;omega)}}
theorem iF.fewer(h:iF p a B w rb n ls S m)(hm:m'<=m):iF p a B w rb n ls S m':=⟨h.toPStB.fewer hm,h.made⟩
theorem PStB.bw(h:PStB p a B w rb n ls S m):B<=w.heap.size:=aC h.vY (iR h.ql)
end
section
open Go.RowKit Go.Shelf
theorem Xd(t:ah)(c d:UInt8):Lib.hasPrefix t.data.toList [c,d]=decide (1<t.size/\byteOf t 0=c.toNat/\byteOf t 1=d.toNat):=by
 unfold Lib.hasPrefix byteOf;rw[<-cZ,<-cZ]
 have hs:t.size=t.data.toList.length:=by rw[aX];rfl
 rw[hs]
 cases t.data.toList with
 |nil=>rfl
 |cons x l=>
  cases l with
  |nil=>
   show(c==x&&false)=_
   simp
  |cons y l=>
   show(c==x&&(d==y&&([]:List UInt8).isPrefixOf l))=_;rw[tu]
   simp
   exact⟨fun e=>⟨by rw[e.1],by rw[e.2]⟩,fun e=>⟨(qh.1 e.1).symm,(qh.1 e.2).symm⟩⟩
theorem Hr(t:ah)(c:UInt8)(h:0<t.size)(hc:byteOf t 0=c.toNat):t.extract 0 1=⟨#[c]⟩:=by
 apply ByteArray.ext;apply fJ.1;rw[gI,Pn];unfold byteOf at hc;rw[<-cZ] at hc
 have hs:t.size=t.data.toList.length:=by rw[aX];rfl
 rw[hs] at h
 cases hl:t.data.toList with
 |nil=>rw[hl] at h;exact absurd h eB
 |cons x l=>
  rw[hl] at hc;have:x=c:=qh.1 (by simpa using hc);rw[this];rfl
theorem wE{p:ah}{l:List UInt8}(h:¬p=⟨l.toArray⟩):(p.toList==l)=false:=by
 cases hq:(p.toList==l) with
 |true=>exact absurd (xL (by rw[eG ⟨l.toArray⟩];exact hq)) h
 |false=>rfl
theorem RU(t:ah)(c:Nat):gq t c=decide (0<t.size/\byteOf t 0=c):=rfl
theorem WJ(u:ah)(w:ak):
  Calls Tryz.prog 319 #[.string u] w fun e w'=>e=.returned (.string (jM u))/\w'=w:=by
 have qw:Hid (∀wx,Calls Tryz.prog 193 #[.string u,.string ⟨#[124,124]⟩] wx fun e w'=>e=.returned (.bool (decide (1<u.size/\byteOf u 0=124/\byteOf u 1=124)))/\w'=wx):=fun wx=>by
  have:=Any.strings_HasPrefix Tryz.lays99 u ⟨#[124,124]⟩ wx;rw[show(⟨#[124,124]⟩:ah).data.toList=[124,124] from rfl,Xd] at this;exact this
 have tK:Hid (∀wx,Calls Tryz.prog 193 #[.string u,.string ⟨#[124]⟩] wx fun e w'=>e=.returned (.bool (gq u 124))/\w'=wx):=fun wx=>pW u 124 wx
 have Es:Hid (∀wx,Calls Tryz.prog 193 #[.string u,.string ⟨#[58]⟩] wx fun e w'=>e=.returned (.bool (gq u 58))/\w'=wx):=fun wx=>pW u 58 wx
 have HM:Hid (jM u=if gq u 124=true then (if 1<u.size/\byteOf u 1=124 then wC else oI) else if gq u 58=true then acd else ⟨#[]⟩):=rfl
 by_cases h2:1<u.size/\byteOf u 0=124/\byteOf u 1=124
 ·have HF:Hid (jM u=⟨#[124,124]⟩):=by
   rw[HM.out,RU,bT (show 0<u.size/\byteOf u 0=124 from⟨aJ,h2.2.1⟩),aH rfl,aH ⟨h2.1,h2.2.2⟩];rfl
  rw[bT h2] at qw
  go_enter Tryz.func319,Tryz.ntmps319
  go_wp2_with fail
  refine(qw.out _).mono ?_;rintro e w1 ⟨rfl,rfl⟩
  go_wp2_with fail
  go_ret;exact⟨by rw[HF.out];rfl,rfl⟩
 rw[bM h2] at qw
 by_cases h1:0<u.size/\byteOf u 0=124
 ·have hb:gq u 124=true:=bT h1
  have HF:Hid (jM u=⟨#[124]⟩):=by rw[HM.out,aH hb,aA (fun h=>h2 ⟨h.1,h1.2,h.2⟩)];rfl
  have hsl:∀wx,(Instr.slice 9 (.string u) none (some (.int .i64 1)) none).run Tryz.prog wx=.ok (.string ⟨#[124]⟩) wx:=fun wx=>by
   have:=qH u 1 aJ wx;rw[Hr u 124 h1.1 h1.2] at this;exact this
  rw[hb] at tK
  go_enter Tryz.func319,Tryz.ntmps319
  go_wp2_with fail
  refine(qw.out _).mono ?_;rintro e w1 ⟨rfl,rfl⟩
  go_wp2_with fail
  refine(tK.out _).mono ?_;rintro e w1 ⟨rfl,rfl⟩
  go_wp2_with fail
  go_ret;exact⟨by rw[HF.out];rfl,rfl⟩
 have hb:gq u 124=false:=bM h1;rw[hb] at tK
 by_cases h3:0<u.size/\byteOf u 0=58
 ·have hb3:gq u 58=true:=bT h3
  have HF:Hid (jM u=⟨#[58]⟩):=by rw[HM.out,hb,aA bS,aH hb3];rfl
  have hsl:∀wx,(Instr.slice 9 (.string u) none (some (.int .i64 1)) none).run Tryz.prog wx=.ok (.string ⟨#[58]⟩) wx:=fun wx=>by
   have:=qH u 1 aJ wx;rw[Hr u 58 h3.1 h3.2] at this;exact this
  rw[hb3] at Es
  go_enter Tryz.func319,Tryz.ntmps319
  go_wp2_with fail
  refine(qw.out _).mono ?_;rintro e w1 ⟨rfl,rfl⟩
  go_wp2_with fail
  refine(tK.out _).mono ?_;rintro e w1 ⟨rfl,rfl⟩
  go_wp2_with fail
  refine(Es.out _).mono ?_;rintro e w1 ⟨rfl,rfl⟩
  go_wp2_with fail
  go_ret;exact⟨by rw[HF.out];rfl,rfl⟩
 have hb3:gq u 58=false:=bM h3
 have HF:Hid (jM u=⟨#[]⟩):=by rw[HM.out,hb,hb3,aA bS,aA bS];rfl
 rw[hb3] at Es
 go_enter Tryz.func319,Tryz.ntmps319
 go_wp2_with fail
 refine(qw.out _).mono ?_;rintro e w1 ⟨rfl,rfl⟩
 go_wp2_with fail
 refine(tK.out _).mono ?_;rintro e w1 ⟨rfl,rfl⟩
 go_wp2_with fail
 refine(Es.out _).mono ?_;rintro e w1 ⟨rfl,rfl⟩
 go_wp2_with fail
 go_ret;exact⟨by rw[HF.out];rfl,rfl⟩
end
theorem LU(p:Nat->Bool):∀(l:List UInt8) (c:UInt8),l[Bj p l]?=some c->p c.toNat=false
 |[],c,h=>by cases h
 |x::l,c,h=>by
  rw[Bj] at h
  by_cases hp:p x.toNat=true
  ·rw[aH hp] at h;exact LU p l c (by simpa using h)
  rw[aA hp] at h;simp only[jq,Option.some.injEq] at h;subst h;exact yX.2 hp
theorem WA(t:ah)(h:(bI t).size≠0):byteOf (bI t) 0≠32:=by
 rw[KN] at h;unfold bI;rw[kF _ _ _ _ aJ (ai _),kX]
 have hl:BH t<t.data.toList.length:=by rw[aX];show _<t.size;omega
 have h1:=LU agm t.data.toList (t.data.toList[BH t]) (by exact fe hl);rw[uZ (fe hl)];intro e;rw[e] at h1;exact absurd h1 bS
variable {u:ah}
theorem ZB(h:jM u=⟨#[]⟩):gq u 124=false/\gq u 58=false:=by
 unfold jM at h
 split at h
 ·split at h
  ·exact absurd h bS
  exact absurd h bS
 rename_i h1
 split at h
 ·exact absurd h bS
 rename_i h2
 exact⟨yX.2 h1,yX.2 h2⟩
theorem Cw(h:jM u≠⟨#[]⟩):1<=(jM u).size/\(jM u).size<=u.size:=by
 unfold jM at*
 split
 ·rename_i h1
  have:=fI h1
  split
  ·rename_i h2
   exact⟨bS,by show 2<=_;omega⟩
  exact⟨bS,by show 1<=_;omega⟩
 rename_i h1
 split
 ·rename_i h2
  have:=fI h2;exact⟨bS,by show 1<=_;omega⟩
 rename_i h2
 rw[aA h1,aA h2] at h;exact absurd rfl h
theorem yK(u:ah)(h:(bI u).size≠0)(hm:jM (bI u)=⟨#[]⟩):1<=kP (bI u)/\kP (bI u)<=(bI u).size:=by
 have h1:=WA u h;obtain⟨h2,h3⟩:=ZB hm;have h2:=yg h2;have h3:=yg h3;unfold kP;refine⟨?_,Nat.min_le_right _ _⟩
 have hs:1<=qG Kz (bI u):=by
  unfold qG
  by_cases hd:byteOf (bI u) 0=36
  ·rw[Ei _ _ _ aJ hd];have:=(OX Kz (bI u) _ (0+2) (ai _) aJ).1;omega
  rw[Cc _ _ _ aJ hd (by unfold Kz;exact bM aJ)];exact(OX Kz (bI u) _ (0+1) (ai _) aJ).1
 omega
theorem uJ(E:ah->ah)(ms:List ah):∀(g g':Nat) (u:ah) (a:jm),u.size<g->u.size<g'->jN E ms g u a=jN E ms g' u a
 |0,_,_,_,h,_=>aJ
 |_+1,0,_,_,_,h=>aJ
 |g+1,g'+1,u,a,h,h'=>by
  rw[jN,jN];have hle:=kG u
  by_cases h0:(bI u).size=0
  ·rw[aH h0,aH h0]
  rw[aA h0,aA h0]
  by_cases hm:jM (bI u)=⟨#[]⟩
  ·rw[aH hm,aH hm];have hp:=yK u h0 hm
   cases qY E ((bI u).extract 0 (kP (bI u))) with
   |error e=>rfl
   |ok p=>exact uJ E ms g g' _ _ (by rw[aM];omega) (by rw[aM];omega)
  rw[aA hm,aA hm];have hz:=Cw hm
  by_cases hb:fo (jM (bI u)) ms=true
  ·rw[aH hb,aH hb];exact uJ E ms g g' _ _ (by rw[aM];omega) (by rw[aM];omega)
  rw[aA hb,aA hb]
theorem Ub(E:ah->ah)(ms:List ah)(u:ah)(a:jm)(h:(bI u).size=0):qj E ms u a=.ok a:=by
 unfold qj;rw[jN,aH h]
theorem QN(E:ah->ah)(ms:List ah)(u:ah)(a:jm)(h:(bI u).size≠0)(hm:jM (bI u)=⟨#[]⟩):qj E ms u a=(match qY E ((bI u).extract 0 (kP (bI u))) with
  |.error e=>.error e
  |.ok p=>qj E ms ((bI u).extract (kP (bI u)) (bI u).size) (uh a p)):=by
 have hle:=kG u;have hp:=yK u h hm;unfold qj
 conv=>lhs;rw[jN,aA h,aH hm]
 cases qY E ((bI u).extract 0 (kP (bI u))) with
 |error e=>rfl
 |ok p=>exact uJ E ms _ _ _ _ (by rw[aM];omega) aJ
theorem QM(E:ah->ah)(ms:List ah)(u:ah)(a:jm)(h:(bI u).size≠0)(hm:jM (bI u)≠⟨#[]⟩):qj E ms u a=if fo (jM (bI u)) ms=true then qj E ms ((bI u).extract (jM (bI u)).size (bI u).size) (a++[(jM (bI u),[])]) else .error .syn:=by
 have hle:=kG u;have hz:=Cw hm;unfold qj
 conv=>lhs;rw[jN,aA h,aA hm]
 by_cases hb:fo (jM (bI u)) ms=true
 ·rw[aH hb,aH hb];exact uJ E ms _ _ _ _ (by rw[aM];omega) aJ
 rw[aA hb,aA hb]
theorem EB(I:jm)(mk:ah)(l:List ah)(p:ah):uh (I++[(mk,l)]) p=I++[(mk,l++[p])]:=by
 unfold uh;rw[List.getLast?_append,List.getLast?_singleton]
 simp
section
open Go.RowKit Go.Shelf
def Ua(a:Nat->Addr)(n:Int)(r:Except FO ah)(e:Ending)(w':ak):Prop:=match r with
 |.ok p=>e=.returned (.string p)
 |.error b=>jF n (ja a (BG b)) e w'
theorem QW(rb:Nat)(n:Int)(t:ah)(ls:List iH)(ao:Option Addr)(a:Nat->Addr)(w:ak)(h0:w.cell? ⟨rb,0,none⟩=some (.int .i64 n))(h2:w.cell? ⟨rb,2,none⟩=some (.pointer ao))(hs:lY w (.pointer ao) ls)(hg:Gl a w)(ht:t.size<=1048576)(hE:∀l∈ls,BOk l):
  Calls Tryz.prog 320 #[.pointer (some ⟨rb,0,none⟩),.string t] w fun e w'=>Ua a n (qY (gK ls) t) e w'/\Below w.heap.size w w':=by
 have HX:Hid (Calls Tryz.prog 201 #[.pointer (some ⟨rb,0,none⟩),.string t,.pointer ao] w fun e w'=>VT a n (iE (gK ls) t) e w'/\Below w.heap.size w w'):=xX rb n t ls _ a w h0 hs hg ht (fun x=>aC (Ob hE x) aJ) (Sw hE)
 have HPS:Hid (qY (gK ls) t=match iE (gK ls) t with
  |none=>.error .syn
  |some p=>if mP p=true then .ok p else .error .nam):=rfl
 have H0:=aV h0;have HG:=aV hg;have HGS:=aV hg.size;have hrb:rb<w.heap.size:=aG h0;clear hs hg hE h0
 cases hx:iE (gK ls) t with
 |none=>
  have HF:Hid (qY (gK ls) t=.error .syn):=by rw[HPS.out,hx];rfl
  rw[hx] at HX
  go_enter Tryz.func320,Tryz.ntmps320
  go_wp2_with fail
  refine HX.out.mono ?_;rintro e w1 ⟨⟨b,rfl,s0,s1⟩,hb1⟩;exact⟨rfl,(by rw[HF.out];exact⟨b,rfl,s0,s1⟩),hb1⟩
 |some p=>
  rw[hx] at HX HPS
  have Vp:Hid (∀wx,Calls Tryz.prog 73 #[.string p] wx fun e w'=>e=.returned (.bool (eU p))/\w'=wx):=fun wx=>sK p wx
  have HOK:Hid (mP p=(eU p&&!decide (p=jO)&&!decide (p=gH))):=rfl
  by_cases hok:mP p=true
  ·have HF:Hid (qY (gK ls) t=.ok p):=(show qY (gK ls) t=(if mP p=true then .ok p else .error .nam) from HPS.out).trans (aH hok);rw[HOK.out] at hok;simp only[rf,Bool.not_eq_true',rE] at hok;obtain⟨⟨hn,hl1⟩,hl2⟩:=hok;have q1:(p.toList==[46,108,111,103])=false:=wE hl1;have q2:(p.toList==[46,108,111,103,46,110,101,119])=false:=wE hl2;rw[hn] at Vp;clear HOK
   go_enter Tryz.func320,Tryz.ntmps320
   go_wp2_with fail
   refine HX.out.mono ?_;rintro e w1 ⟨rfl,hb1⟩;have HB1:=aV hb1;have c0:w1.cell? ⟨0,0,none⟩=some (.iface 472 (.pointer (some (a 0)))):=(HG.out.below hb1 HGS.out).errs 0 bS;clear hb1
   go_wp2_with fail
   go_region_with (first|(go_at_call 73;refine(Vp.out _).mono ?_;rintro e w8 ⟨rfl,rfl⟩)|(go_at_call 112;refine(gL _ _ _).mono ?_;rintro e w8 ⟨rfl,rfl⟩))
   all_goals
    go_wp2_with fail
    go_ret;exact⟨by rw[HF.out];rfl,HB1.out.drew⟩
  have HF:Hid (qY (gK ls) t=.error .nam):=(show qY (gK ls) t=(if mP p=true then .ok p else .error .nam) from HPS.out).trans (aA hok);rw[HOK.out] at hok
  cases hn:eU p with
  |false=>
   rw[hn] at Vp;clear HOK hok
   go_enter Tryz.func320,Tryz.ntmps320
   go_wp2_with fail
   refine HX.out.mono ?_;rintro e w1 ⟨rfl,hb1⟩;have uT:Hid (Calls Tryz.prog 112 #[.pointer (some ⟨rb,0,none⟩),.bool false,.iface 472 (.pointer (some (a 0)))] w1.drew fun e w'=>jF n (ja a 0) e w'/\Below w.heap.size w w'):=(pz rb n _ _ w1.drew ((hb1.cell (p:=⟨rb,0,none⟩) hrb).trans H0.out)).mono (fun e w' h=>⟨h.1,hb1.drew.trans (h.2.mono hb1.size)⟩);have c0:w1.cell? ⟨0,0,none⟩=some (.iface 472 (.pointer (some (a 0)))):=(HG.out.below hb1 HGS.out).errs 0 bS;clear hb1
   go_wp2_with fail
   refine jX dD ?_;change wpAny _ _ _ _ _ _ _ (World.drew _);refine uA 0 (.pointer (some ⟨rb,0,none⟩)) rfl<|uA 1 (.string p) rfl ?_
   refine pA 2 11 rfl rfl (fun K hK=>?_) fun K hK=>?_
   ·go_simp
    go_wp2_with (go_at_call 73;refine(Vp.out _).mono ?_;rintro e w8 ⟨rfl,rfl⟩)
    refine uA 3 (.bool false) rfl<|sA 4 rfl<|sA 5 rfl<|uA 6 (.bool false) rfl<|uA 7 (.bool false) rfl<|sA 8 rfl<|sA 9 rfl<|uA 10 (.bool false) rfl ?_
    refine rA 11 rfl fun K hK=>?_
    go_simp;refine hK _ _ ?_;clear hK K
    refine rA 12 rfl fun K hK=>?_
    go_simp;refine uT.out.mono ?_;rintro e w8 ⟨hst,mH⟩;obtain⟨b,rfl,s0,s1⟩:=hst;exact⟨rfl,(by rw[HF.out];exact⟨b,rfl,s0,s1⟩),mH⟩
   go_simp;refine hK _ _ ?_;clear hK K
   refine rA 2 rfl fun K hK=>?_
   go_simp
   go_wp2_with (go_at_call 73;refine(Vp.out _).mono ?_;rintro e w8 ⟨rfl,rfl⟩)
   refine uA 3 (.bool false) rfl<|sA 4 rfl<|sA 5 rfl<|uA 6 (.bool false) rfl<|uA 7 (.bool false) rfl<|sA 8 rfl<|sA 9 rfl<|uA 10 (.bool false) rfl ?_
   refine rA 12 rfl fun K hK=>?_
   go_simp;refine uT.out.mono ?_;rintro e w8 ⟨hst,mH⟩;obtain⟨b,rfl,s0,s1⟩:=hst;exact⟨rfl,(by rw[HF.out];exact⟨b,rfl,s0,s1⟩),mH⟩
  |true=>
   rw[hn] at Vp hok
   by_cases hl1:p=jO
   ·subst hl1;clear HOK hok;unfold jO at*
    go_enter Tryz.func320,Tryz.ntmps320
    go_wp2_with fail
    refine HX.out.mono ?_;rintro e w1 ⟨rfl,hb1⟩;have uT:Hid (Calls Tryz.prog 112 #[.pointer (some ⟨rb,0,none⟩),.bool false,.iface 472 (.pointer (some (a 0)))] w1.drew fun e w'=>jF n (ja a 0) e w'/\Below w.heap.size w w'):=(pz rb n _ _ w1.drew ((hb1.cell (p:=⟨rb,0,none⟩) hrb).trans H0.out)).mono (fun e w' h=>⟨h.1,hb1.drew.trans (h.2.mono hb1.size)⟩);have c0:w1.cell? ⟨0,0,none⟩=some (.iface 472 (.pointer (some (a 0)))):=(HG.out.below hb1 HGS.out).errs 0 bS;clear hb1
    go_wp2_with fail
    refine jX dD ?_;change wpAny _ _ _ _ _ _ _ (World.drew _);refine uA 0 (.pointer (some ⟨rb,0,none⟩)) rfl<|uA 1 (.string ⟨#[46,108,111,103]⟩) rfl ?_
    refine pA 2 11 rfl rfl (fun K hK=>?_) fun K hK=>?_
    ·go_simp
     go_wp2_with (go_at_call 73;refine(Vp.out _).mono ?_;rintro e w8 ⟨rfl,rfl⟩)
     refine uA 3 (.bool true) rfl<|uA 4 (.string ⟨#[46,108,111,103]⟩) rfl<|uA 5 (.bool false) rfl<|uA 6 (.bool false) rfl<|uA 7 (.bool false) rfl<|sA 8 rfl<|sA 9 rfl<|uA 10 (.bool false) rfl ?_
     refine rA 11 rfl fun K hK=>?_
     go_simp;refine hK _ _ ?_;clear hK K
     refine rA 12 rfl fun K hK=>?_
     go_simp;refine uT.out.mono ?_;rintro e w8 ⟨hst,mH⟩;obtain⟨b,rfl,s0,s1⟩:=hst;exact⟨rfl,(by rw[HF.out];exact⟨b,rfl,s0,s1⟩),mH⟩
    go_simp;refine hK _ _ ?_;clear hK K
    refine rA 2 rfl fun K hK=>?_
    go_simp
    go_wp2_with (go_at_call 73;refine(Vp.out _).mono ?_;rintro e w8 ⟨rfl,rfl⟩)
    refine uA 3 (.bool true) rfl<|uA 4 (.string ⟨#[46,108,111,103]⟩) rfl<|uA 5 (.bool false) rfl<|uA 6 (.bool false) rfl<|uA 7 (.bool false) rfl<|sA 8 rfl<|sA 9 rfl<|uA 10 (.bool false) rfl ?_
    refine rA 12 rfl fun K hK=>?_
    go_simp;refine uT.out.mono ?_;rintro e w8 ⟨hst,mH⟩;obtain⟨b,rfl,s0,s1⟩:=hst;exact⟨rfl,(by rw[HF.out];exact⟨b,rfl,s0,s1⟩),mH⟩
   have hl2:p=gH:=by
    by_cases h:p=gH
    ·exact h
    exact absurd (by simp[hl1,h]) hok
   subst hl2;clear HOK hok hl1;unfold gH at*
   go_enter Tryz.func320,Tryz.ntmps320
   go_wp2_with fail
   refine HX.out.mono ?_;rintro e w1 ⟨rfl,hb1⟩;have uT:Hid (Calls Tryz.prog 112 #[.pointer (some ⟨rb,0,none⟩),.bool false,.iface 472 (.pointer (some (a 0)))] w1.drew fun e w'=>jF n (ja a 0) e w'/\Below w.heap.size w w'):=(pz rb n _ _ w1.drew ((hb1.cell (p:=⟨rb,0,none⟩) hrb).trans H0.out)).mono (fun e w' h=>⟨h.1,hb1.drew.trans (h.2.mono hb1.size)⟩);have c0:w1.cell? ⟨0,0,none⟩=some (.iface 472 (.pointer (some (a 0)))):=(HG.out.below hb1 HGS.out).errs 0 bS;clear hb1
   go_wp2_with fail
   go_region_with (first|(go_at_call 73;refine(Vp.out _).mono ?_;rintro e w8 ⟨rfl,rfl⟩)|(go_at_call 112;refine uT.out.mono ?_;rintro e w8 ⟨hst,mH⟩;obtain⟨b,rfl,s0,s1⟩:=hst;refine uo ⟨rfl,(by rw[HF.out];exact⟨b,rfl,s0,s1⟩),mH⟩ w1 ?_))
   all_goals trivial
abbrev FY:=List (ah×Value)
def sM(l:FY):List Value:=l.flatMap fun x=>[.string x.1,x.2]
theorem zD(l r:FY):sM (l++r)=sM l++sM r:=by simp[sM]
variable {i:Nat}
theorem GQ{l:FY}{x:ah×Value}(h:l[i]?=some x):(sM l)[i*2]?=some (.string x.1)/\(sM l)[i*2+1]?=some x.2:=CJ (fun x:ah×Value=>.string x.1) (fun x=>x.2) l i x h
theorem Xl(l:FY)(mk:ah)(pv pv':Value):(sM (l++[(mk,pv)])).set (l.length*2+1) pv'=sM (l++[(mk,pv')]):=by
 rw[zD,zD,MN _ _ (by unfold sM;rw[vF];omega)];unfold sM;rw[vF,show l.length*2+1-l.length*2=1 by omega];rfl
def gJ(W0:Nat)(w:ak)(v:Value)(l:List ah):Prop:=bL w v l/\∀k,v.ownBlock=some k->W0<=k
def aeJ(W0:Nat)(w:ak)(vs:FY)(I:jm):Prop:=vs.length=I.length/\∀(k:Nat) x y,vs[k]?=some x->I[k]?=some y->x.1=y.1/\gJ W0 w x.2 y.2
structure jL(W0:Nat)(w wr:ak)(c:Nat->Nat)(v pv:Value)(vs:FY)(I:jm)(mk:ah)(l:List ah):Prop where
 secs:wr.ownsRow W0 399 2 v (vs.length+1) (sM (vs++[(mk,pv)]))
 last:wr.ownsRow W0 9 1 pv l.length (l.map Value.string)
 const:BF c wr (fun w=>aeJ W0 w vs I)
 c1:∀k,v.ownBlock=some k->c k=1
 c2:∀k,pv.ownBlock=some k->c k=2
 low:∀k,k<W0->c k=0
 below:Below W0 w wr
variable {W0:Nat}{w wr w':ak}{c:Nat->Nat}{pv:Value}{vs:FY}{I:jm}{mk:ah}{l:List ah}
theorem jL.later{v:Value}(h:jL W0 w wr c v pv vs I mk l)(hb:Below wr.heap.size wr w')(hW:W0<=wr.heap.size):jL W0 w w' c v pv vs I mk l where
 secs:=dR h.secs (fun k hk=>hb.block k (bF h.secs k hk).2)
 last:=dR h.last (fun k hk=>hb.block k (bF h.last k hk).2)
 const:=h.const.step hb.size (fun k hk h0=>⟨hb.block k hk,h0⟩)
 c1:=h.c1
 c2:=h.c2
 low:=h.low
 below:=h.below.trans (hb.mono hW)
theorem zW{base:Nat}{v:Value}(h:w.ownsRow base 9 1 v l.length (l.map Value.string)):bL w v l:=by
 obtain⟨ao2,cap2,e,hc2,hg2⟩:=bE h;subst e;refine⟨ao2,cap2,rfl,hc2,?_⟩
 by_cases h0:l=[]
 ·refine aK ⟨fun e=>?_,h0,trivial⟩;obtain⟨_,⟨e2,_⟩|⟨g2,_,_,e2,_⟩⟩:=h
  ·injection e2
  injection e2 with e3 _ _;rw[e] at e3;cases e3
 obtain⟨g2,rfl⟩:=hg2 (gD.2 h0);refine aP ⟨g2,0,rfl,fun k s hs=>?_⟩;rw[dh];exact(dV h k _ (by rw[dS,hs];rfl)).1
def rD(W0:Nat)(w:ak)(v:Value)(s:jm):Prop:=∃g cap,v=.slice (some ⟨g,0,none⟩) s.length cap/\s.length<=cap/\∃vs:FY,aeJ W0 w vs s/\∀i x,vs[i]?=some x->w.cell? ⟨g,i*2,none⟩=some (.string x.1)/\w.cell? ⟨g,i*2+1,none⟩=some x.2
theorem jL.done{v:Value}(h:jL W0 w wr c v pv vs I mk l):rD W0 wr v (I++[(mk,l)]):=by
 obtain⟨ao,cap,rfl,hc,hg⟩:=bE h.secs;obtain⟨g,rfl⟩:=hg aJ;have hcn:=h.const.now
 have hlen:(I++[(mk,l)]).length=vs.length+1:=by rw[aI,hcn.1];rfl
 refine⟨g,cap,by rw[hlen],by rw[hlen];exact hc,vs++[(mk,pv)],⟨by rw[aI,hlen];rfl,fun k x y hx hy=>?_⟩,fun i x hx=>?_⟩
 ·rcases bX k vs.length with q|q
  ·rw[bW q] at hx;rw[bW (by rw[<-hcn.1];exact q)] at hy;exact hcn.2 k x y hx hy
  have hk:k=vs.length:=by
   have:=(aN.1 hx).1;rw[aI] at this
   simp at this
   omega
  subst hk;rw[dz (ai _),qm] at hx;rw[hcn.1,dz (ai _),qm] at hy;obtain rfl:=ax hx;obtain rfl:=ax hy;exact⟨rfl,zW h.last,fun k hk=>(bF h.last k hk).1⟩
 have hc2:=GQ hx;exact⟨(dV h.secs _ _ hc2.1).1,(dV h.secs _ _ hc2.2).1⟩
theorem jL.more{v v':Value}{m2:ah}(h:jL W0 w wr c v pv vs I mk l)(hg:wr.grownBy w' v.ownBlock)(hv:w'.ownsRow W0 399 2 v' (vs.length+1+1) (sM (vs++[(mk,pv)]++[(m2,.slice none 0 0)])))(hat:∀k,v'.ownBlock=some k->v.ownBlock=some k\/wr.heap.size<=k)(hW:W0<=wr.heap.size):∃c',jL W0 w w' c' v' (.slice none 0 0) (vs++[(mk,pv)]) (I++[(mk,l)]) m2 []:=by
 have hoff:∀k,k<wr.heap.size->c k≠1->w'.heap[k]?=wr.heap[k]?:=fun k hk hc=>hg.block k hk (fun e=>hc (h.c1 k e.symm))
 refine⟨fun k=>if v'.ownBlock=some k then 1 else if c k=2 then 0 else if c k=1 then 3 else c k,?_⟩
 exact {
  secs:=by rw[aI];exact hv
  last:=dK _ _ _ _
  const:=fun w'' hs hk=>by
   have hk2:∀k,k<wr.heap.size->c k=0\/c k=2->w''.heap[k]?=wr.heap[k]?:=fun k h1 h2=>by
    refine(hk k (aB h1 hg.size) ?_).trans (hoff k h1 aJ);show(if v'.ownBlock=some k then 1 else if c k=2 then 0 else if c k=1 then 3 else c k)=0
    rw[aA (fun e=>by
     rcases hat k e with q|q
     ·have:=h.c1 k q;omega
     omega)]
    rcases h2 with h2|h2
    ·rw[aA aJ,aA aJ];exact h2
    rw[aH h2]
   have hcn:=h.const w'' (aC hg.size hs) (fun k h1 h2=>hk2 k h1 (aK h2));have hl:w''.ownsRow W0 9 1 pv l.length (l.map Value.string):=dR h.last (fun k hk'=>hk2 k (bF h.last k hk').2 (aP (h.c2 k hk')));refine⟨by rw[aI,aI,hcn.1];rfl,fun k x y hx hy=>?_⟩
   rcases bX k vs.length with q|q
   ·rw[bW q] at hx;rw[bW (by rw[<-hcn.1];exact q)] at hy;exact hcn.2 k x y hx hy
   have hkk:k=vs.length:=by
    have:=(aN.1 hx).1;rw[aI] at this
    simp at this
    omega
   subst hkk;rw[dz (ai _),qm] at hx;rw[hcn.1,dz (ai _),qm] at hy;obtain rfl:=ax hx;obtain rfl:=ax hy;exact⟨rfl,zW hl,fun k hk=>(bF hl k hk).1⟩
  c1:=fun k hk=>aH hk
  c2:=fun k hk=>by cases hk
  low:=fun k hk=>by
   show(if v'.ownBlock=some k then 1 else if c k=2 then 0 else if c k=1 then 3 else c k)=0
   rw[aA (fun e=>by
    rcases hat k e with q|q
    ·have:=h.c1 k q;have:=h.low k hk;omega
    omega)]
   have:=h.low k hk;rw[aA aJ,aA aJ];exact this
  below:=h.below.grown hg hW (fun k hk=>(bF h.secs k hk).1)}
variable {w6:ak}{g cap:Nat}
theorem jL.add{pv':Value}{p:ah}{n:Nat}(h:jL W0 w wr c (.slice (some ⟨g,0,none⟩) n cap) pv vs I mk l)(hn:n=vs.length+1)(hg:wr.grownBy w6 pv.ownBlock)(hl:w6.ownsRow W0 9 1 pv' (l.length+1) (l.map Value.string++[.string p]))(hat:∀k,pv'.ownBlock=some k->pv.ownBlock=some k\/wr.heap.size<=k)(hW:W0<=wr.heap.size):∃c',jL W0 w (w6.setCell ⟨g,vs.length*2+1,none⟩ pv') c' (.slice (some ⟨g,0,none⟩) n cap) pv' vs I mk (l++[p]):=by
 have hgc:c g=1:=h.c1 g rfl;have hgb:=bF h.secs g rfl
 have hoff:∀k,k<wr.heap.size->c k≠2->w6.heap[k]?=wr.heap[k]?:=fun k hk hc=>hg.block k hk (fun e=>hc (h.c2 k e.symm))
 have hne:pv'.ownBlock≠some g:=fun e=>by
  rcases hat g e with q|q
  ·have:=h.c2 g q;omega
  omega
 refine⟨fun k=>if pv'.ownBlock=some k then 2 else c k,?_⟩
 have hs6:w6.ownsRow W0 399 2 (.slice (some ⟨g,0,none⟩) n cap) n (sM (vs++[(mk,pv)])):=by
  have h1:=dR h.secs (w':=w6) (fun k hk=>by
   have e:g=k:=ax hk;subst e
   exact hoff _ hgb.2 (by rw[hgc];decide))
  rw[hn];rw[hn] at h1;exact h1
 exact {
  secs:=by
   have h1:=FC hs6 (vs.length*2+1) pv';rw[Xl] at h1;rw[<-hn];exact h1
  last:=by
   rw[aI,iI];exact dR hl (fun k hk=>au _ _ _ _ (fun e=>hne (by rw[<-show k=g from e];exact hk)))
  const:=h.const.step (by simpa using hg.size) (fun k hk h0=>⟨by
   rw[au _ _ _ _ (show k≠g from fun e=>by rw[e] at h0;omega)]
   exact hoff k hk aJ,by
   show(if pv'.ownBlock=some k then 2 else c k)=0
   rw[aA (fun e=>by
    rcases hat k e with q|q
    ·have:=h.c2 k q;omega
    omega)]
   exact h0⟩)
  c1:=fun k hk=>by
   have e:g=k:=ax hk;subst e;show(if pv'.ownBlock=some g then 2 else c g)=1;rw[aA hne];exact hgc
  c2:=fun k hk=>aH hk
  low:=fun k hk=>by
   show(if pv'.ownBlock=some k then 2 else c k)=0
   rw[aA (fun e=>by
    rcases hat k e with q|q
    ·have:=h.c2 k q;have:=h.low k hk;omega
    omega)]
   exact h.low k hk
  below:=(h.below.grown hg hW (fun k hk=>(bF h.last k hk).1)).setCell (p:=⟨g,vs.length*2+1,none⟩) hgb.1 _}
theorem jL.still{n:Nat}(h:jL W0 w wr c (.slice (some ⟨g,0,none⟩) n cap) pv vs I mk l)(hn:n=vs.length+1)(hg:wr.grownBy w6 pv.ownBlock):w6.cell? ⟨g,vs.length*2+1,none⟩=some pv/\w6.frozen? ⟨g,vs.length*2+1,none⟩=false:=by
 have hgc:c g=1:=h.c1 g rfl;have hgb:=bF h.secs g rfl
 have h1:=dR h.secs (w':=w6) (fun k hk=>by
  have e:g=k:=ax hk;subst e
  exact hg.block _ hgb.2 (fun e=>by have:=h.c2 g e.symm;omega))
 rw[<-hn] at h1;exact dV h1 (vs.length*2+1) pv (GQ (l:=vs++[(mk,pv)]) (i:=vs.length) (x:=(mk,pv)) eB).2
theorem Qb(ms:List ah)(v:Value)(x:ah)(w:ak)(h:bL w v ms)(hl:ms.length<=1048576):
  Calls Tryz.prog 321 #[v,.string x] w fun e w'=>e=.returned (.bool (fo x ms))/\w'=w:=by
 obtain⟨ao,cap,rfl,hc,h⟩:=h
 have hm:∀zs:List ah,Lib.containsS zs x=fo x zs:=fun zs=>by
  rw[tu,Lib.containsS_iff];unfold fo;rw[aaV];exact⟨fun h=>⟨x,h,bT rfl⟩,fun ⟨y,h1,h2⟩=>by rw[<-fI h2];exact h1⟩
 rcases h with ⟨_,rfl,_⟩|⟨b,o,rfl,h⟩
 ·exact Any.slices_Contains_string_empty Tryz.lays110 ao cap x w
 refine(Any.slices_Contains_string Tryz.lays110 b o ms.length cap ms x w (ai _) aJ (fun j hj=>?_)).mono ?_
 ·rw[h j (ms[j]) eB]
  simp[List.getD,hj]
 rintro e w' ⟨rfl,rfl⟩;rw[rz,hm];exact⟨rfl,rfl⟩
end
end Go.Proofs.YthhbpebihgjpjaaGreatDoor
