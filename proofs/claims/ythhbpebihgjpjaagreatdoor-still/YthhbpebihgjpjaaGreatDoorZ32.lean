import Derived.Test.YthhbpebihgjpjaaGreatDoorZ20
namespace Go.Proofs.YthhbpebihgjpjaaGreatDoor
set_option maxRecDepth 1000000
set_option maxHeartbeats 20000000
set_option linter.all false
section
open Go.RowKit Go.Maps
variable {w w':aj}{B b:Nat}
theorem jL(hg:w.grownBy w' (some b))(hb:B<=b)(hB:B<=w.heap.size):Below B w w':=(au B w).grown hg hB (fun k hk=>by rw[<-ak hk];exact hb)
variable {p:PV}{a:Nat->Addr}{rb m:Nat}{n:Int}{ls ls':List dK}{S:St}
theorem PStB.turn{p':PV}{n':Int}{Er:Value}(h:PStB p a B w rb n ls S m)(hg:w.grownBy w' (some rb))(hp:p'={p with vl:=Er})(hrow:aeE p' w' rb n')(hl:∀w,Ae w p.vl ls->Ae w Er ls')(hok:SOk S m ls'):PStB p' a B w' rb n' ls' S m:=by
 have hB:B<=w.heap.size:=aA h.vV (iM h.qi)
 have hne:∀k,k<w.heap.size->p.c k≠1->w'.heap[k]?=w.heap[k]?:=fun k hk hc=>hg.block k hk (fun e=>hc (by rw[ak e];exact h.c1))
 subst hp
 exact {
  gl:=h.gl.keep hg.size (fun k hk=>hne k (ay hk h.gl.size) (by have:=h.low k (ay hk h.base);omega))
  base:=h.base
  row:=hrow
  const:=fun w'' hs hk=>by
   have:=h.const w'' (aA hg.size hs) (fun k h1 h2=>(hk k (ay h1 hg.size) h2).trans (hne k h1 (by have:=(show p.c k=0 from h2);omega)));exact⟨hl _ this.1,this.2⟩
  top:=dU.keep h.top (hne p.tb h.top.lt (by rw[h.c2];decide))
  rules:=dU.keep h.rules (hne p.rm h.rules.lt (by rw[h.c3];decide))
  mlt:=ay h.mlt (hg.size)
  jN:=dL h.jN (fun k hk=>hne k (bA h.jN k hk).2 (by have:=h.c5 k hk;omega))
  defs:=dL h.defs (fun k hk=>hne k (bA h.defs k hk).2 (by have:=h.c6 k hk;omega))
  c1:=h.c1,c2:=h.c2,c3:=h.c3,c4:=h.c4,c5:=h.c5,c6:=h.c6,low:=h.low
  few:=h.few
  ok:=hok}
theorem SOk.less(h:SOk S m ls)(hm:∀x∈ls',x∈ls)(hl:ls'.length<=ls.length):SOk S m ls':=
 {h with lines:=fun x hx=>h.lines x (hm x hx),count:=aA hl h.count}
theorem Ut(b o L cap:Nat)(h:L+1<=cap):∃o',(∀k,k<L->o'+k*2=o+2+k*2)/\∀wx,(Instr.slice 198 (.slice (some ⟨b,o,none⟩) (L+1) cap) (some (.int .i64 1)) none none).run Tryz.prog wx=.ok (.slice (some ⟨b,o',none⟩) L (cap-1)) wx:=by
 by_cases hc:cap=1
 ·subst hc
  obtain rfl:L=0:=by omega
  exact⟨o,fun k hk=>by omega,fun wx=>by kernel_rfl⟩
 refine⟨o+2,fun k _=>rfl,fun wx=>?_⟩
 simp[Instr.slice,mZ Tryz.underlying198,go_sem,hc]
 intro hh;omega
theorem Oe(w:aj)(rb:Nat)(v0 v1:Value)(o:Obj):w.grownBy (((w.setCell ⟨rb,1,none⟩ v1).setCell ⟨rb,0,none⟩ v0).alloc o).drew (some rb):=by
 have hs:((w.setCell ⟨rb,1,none⟩ v1).setCell ⟨rb,0,none⟩ v0).heap.size=w.heap.size:=by simp
 refine⟨rfl,rfl,rfl,?_,fun k hk hn=>?_⟩
 ·show w.heap.size<=(((w.setCell ⟨rb,1,none⟩ v1).setCell ⟨rb,0,none⟩ v0).alloc o).heap.size
  simp
 show(((w.setCell ⟨rb,1,none⟩ v1).setCell ⟨rb,0,none⟩ v0).alloc o).heap[k]?=_
 have hne:k≠rb:=fun e=>hn (by rw[e])
 rw[aZ _ _ k (by omega),iP hne,iP hne]
variable {rest:List dK}
theorem OX{x:dK}(h:PStB p a B w rb n (x::rest) S m):
  Calls Tryz.prog 192 #[.pointer (some ⟨rb,0,none⟩)] w fun e w'=>e=.returned (.string x.2)/\(∃Er,PStB {p with vl:=Er} a B w' rb (x.1:Nat) rest S m)/\w.grownBy w' (some rb):=by
 have H:=aP h;obtain⟨ao,cap,hvl,hc,hl⟩:=h.const.now.1
 obtain⟨g,o,rfl,hl2⟩:∃g o,ao=some ⟨g,o,none⟩/\∀k y,(x::rest)[k]?=some y->w.cell? ⟨g,o+k*2,none⟩=some (.int .i64 (y.1:Nat))/\w.cell? ⟨g,o+k*2+1,none⟩=some (.string y.2):=by
  rcases hl with e|e
  ·cases e
  exact e
 have h0:=hl2 0 x rfl;simp only[ql,kT] at h0;have d0:=h0.1;have d1:=h0.2;have hgl:g<w.heap.size:=aC d0;obtain⟨o',ho',hsl⟩:=Ut g o rest.length cap (by simpa using hc)
 have c1:w.cell? ⟨rb,1,none⟩=some (.slice (some ⟨g,o,none⟩) (rest.length+1) cap):=by
  rw[bZ h.row];exact gW some hvl
 have c0:=h.Jg;have f0:w.frozen? ⟨rb,0,none⟩=false:=iG h.row;have f1:w.frozen? ⟨rb,1,none⟩=false:=iG h.row;have hrb:=h.qi;obtain⟨xn,xt⟩:=x;simp only at d0 d1;clear h h0 hl;have HL2:=aP hl2;clear hl2
 go_enter Tryz.func192,Tryz.ntmps192
 go_wp2_with fail
 have HFIN:Hid (∃Er,PStB {p with vl:=Er} a B (((w.setCell ⟨rb,1,none⟩ (.slice (some ⟨g,o',none⟩) rest.length (cap-1))).setCell ⟨rb,0,none⟩ (.int .i64 (xn:Nat))).alloc (.cells #[.int .i64 (xn:Nat),.string xt] 305)).drew rb (xn:Nat) rest S m):=by
  refine⟨.slice (some ⟨g,o',none⟩) rest.length (cap-1),H.out.turn (Oe w rb _ _ _) rfl ?_ ?_ (H.out.ok.less (fun x hx=>aU _ hx) (fB _))⟩
  ·show(((w.setCell ⟨rb,1,none⟩ _).setCell ⟨rb,0,none⟩ _).alloc _).heap[rb]?=_;rw[aZ _ _ rb (by simpa using hrb),xY (xY H.out.row)];rfl
  intro w' hw';obtain⟨ao2,cap2,e2,hc2,h2⟩:=hw';rw[hvl] at e2;injection e2 with e2 e3 e4;subst e2 e4;refine⟨_,_,rfl,(by have:rest.length+1<=cap:=(by simpa using hc);omega),?_⟩
  rcases h2 with e|⟨g2,o2,e,h2⟩
  ·cases e
  injection e with e;injection e with e5 e6 _;subst e5 e6
  by_cases hr:rest=[]
  ·exact aG hr
  refine aL ⟨g,o',rfl,fun k y hy=>?_⟩;have hk:k<rest.length:=(aJ.1 hy).1;have:=h2 (k+1) y (by simpa using hy);rw[show o+(k+1)*2=o'+k*2 by rw[ho' k hk];omega] at this;exact this
 have Rp:Hid (w.grownBy (((w.setCell ⟨rb,1,none⟩ (.slice (some ⟨g,o',none⟩) rest.length (cap-1))).setCell ⟨rb,0,none⟩ (.int .i64 (xn:Nat))).alloc (.cells #[.int .i64 (xn:Nat),.string xt] 305)).drew (some rb)):=Oe w rb _ _ _
 go_region
 all_goals
  go_wp2_with fail
  go_ret;exact⟨rfl,HFIN.out,Rp.out⟩
theorem Me{x:dK}(h:ig p a B w rb n (x::rest) S m):
  Calls Tryz.prog 192 #[.pointer (some ⟨rb,0,none⟩)] w fun e w'=>e=.returned (.string x.2)/\(∃Er,ig {p with vl:=Er} a B w' rb (x.1:Nat) rest S m)/\w.grownBy w' (some rb):=by
 refine(OX h.toPStB).mono ?_;rintro e w' ⟨h1,⟨Er,h2⟩,h3⟩;exact⟨h1,⟨Er,h2,dU.keep h.made (h3.block p.mm h.made.lt (fun e=>by have h4:=h.c4;have h5:=h.c1;rw[ak e] at h4;omega))⟩,h3⟩
theorem JR(h:PStB p a B w rb n ls S m):
  Calls Tryz.prog 263 #[.pointer (some ⟨rb,0,none⟩)] w fun e w'=>e=.returned (.bool (gT ls).isSome)/\w'=w:=by
 have c1:w.cell? ⟨rb,1,none⟩=some p.vl:=by rw[bZ h.row];rfl
 obtain⟨ao,cap,hvl,hc,hl⟩:=h.const.now.1;rw[hvl] at c1;clear hvl
 cases ls with
 |nil=>
  simp only[dR] at c1;clear h hl
  go_enter Tryz.func263,Tryz.ntmps263
  go_wp2_with fail
  go_ret;exact⟨rfl,rfl⟩
 |cons x rest=>
  obtain⟨g,o,rfl,hl2⟩:∃g o,ao=some ⟨g,o,none⟩/\∀k y,(x::rest)[k]?=some y->w.cell? ⟨g,o+k*2,none⟩=some (.int .i64 (y.1:Nat))/\w.cell? ⟨g,o+k*2+1,none⟩=some (.string y.2):=by
   rcases hl with e|e
   ·cases e
   exact e
  have d1:=(hl2 0 x rfl).2;simp only[ql,kT] at d1
  have HI:Hid ((gT (x::rest)).isSome=fQ x.2 32):=by
   show(if fQ x.2 32=true then some (x,rest) else none).isSome=_
   cases fQ x.2 32<;>rfl
  have RA:Hid (∀wx,Calls Tryz.prog 193 #[.string x.2,.string ⟨#[32]⟩] wx fun e w'=>e=.returned (.bool (fQ x.2 32))/\w'=wx):=fun wx=>pR x.2 32 wx
  have hp:(0:Int)<((x::rest).length:Int):=by simp
  clear h hl hl2;generalize (x::rest).length=N at*;generalize fQ x.2 32=bb at*
  go_enter Tryz.func263,Tryz.ntmps263
  go_wp2_with fail
  refine(RA.out _).mono ?_;rintro e w1 ⟨rfl,rfl⟩
  go_wp2_with fail
  go_ret;exact⟨by rw[HI.out];rfl,rfl⟩
theorem ug(h:ig p a B w rb n ls S m):
  Calls Tryz.prog 263 #[.pointer (some ⟨rb,0,none⟩)] w fun e w'=>e=.returned (.bool (gT ls).isSome)/\w'=w:=JR h.toPStB
theorem sN(y:ah×ah)(l:iB)(x:ah):eB (y::l) x=if y.1=x then some y.2 else eB l x:=by
 unfold eB;rw[List.find?_cons]
 by_cases h:y.1=x
 ·rw[aD h,bN h];rfl
 rw[ax h,bH h]
theorem uU(x v y:ah):∀l:iB,eB (oH l x v) y=if y=x then some v else eB l y
 |[]=>by
  rw[oH,sN]
  by_cases h:x=y
  ·rw[aD h,aD h.symm]
  rw[ax h,ax (fun e=>h e.symm)]
 |z::l=>by
  rw[oH]
  by_cases hz:z.1=x
  ·rw[aD hz,sN,sN]
   by_cases h:x=y
   ·rw[aD h,aD h.symm]
   rw[ax h,ax (fun e=>h e.symm),ax (fun e=>h (hz.symm.trans e))]
  rw[ax hz,sN,uU x v y l,sN]
  by_cases h:z.1=y
  ·rw[aD h,ax (fun e=>hz (h.trans e)),aD h]
  rw[ax h,ax h]
variable {x v:ah}
theorem wD.set{n:Nat}{l:iB}(h:dU UG yL w' b n (fun y=>if y=x then some (wu v) else (eB l y).map wu)):wD w' b n (oH l x v):=by
 have e:(fun y=>if y=x then some (wu v) else (eB l y).map wu)=fun y=>(eB (oH l x v) y).map wu:=by
  funext y
  rw[uU]
  by_cases h:y=x
  ·rw[aD h,aD h];rfl
  rw[ax h,ax h]
 unfold wD;rw[<-e];exact h
variable {w1 w2:aj}
theorem SF(hb:Below w.heap.size w w1)(hg:w1.grownBy w2 (some b)):w.grownBy w2 (some b):=
 ⟨hg.os.trans hb.os,hg.tape.trans hb.tape,hg.output.trans hb.output,aA hb.size hg.size,fun k hk hn=>(hg.block k (ay hk hb.size) hn).trans (hb.block k hk)⟩
theorem Kr(hg:w.grownBy w1 (some b))(hb:Below w1.heap.size w1 w2):w.grownBy w2 (some b):=
 ⟨hb.os.trans hg.os,hb.tape.trans hg.tape,hb.output.trans hg.output,aA hg.size hb.size,fun k hk hn=>(hb.block k (ay hk hg.size)).trans (hg.block k hk hn)⟩
variable {sb tb:Nat}{q:Value}
theorem QZ{n:Nat}{l:iB}(hr:w.heap[sb]?=some (.cells #[.map (some tb),q] 302 (0,0)))(hm:wD w tb n l)(hn:n<=1048576)(hx:x.size<=1048576):
  Calls Tryz.prog 199 #[.pointer (some ⟨sb,0,none⟩),.string x,.string v] w fun e w'=>e=.returned (.tuple #[])/\wD w' tb (n+1) (oH l x v)/\w.grownBy w' (some tb):=by
 obtain⟨w2,hrun,hst,hg⟩:=dU.store hm (t:=300) Tryz.underlying300 (by unfold maxLen;omega) x (by unfold maxLen;omega) (wu v) (UI v);have anA:(Instr.mapUpdate 300 (.map (some tb)) (.string x) (.agg #[.string v])).run Tryz.prog w=.ok () w2:=hrun;have HB:Hid (wD w2 tb (n+1) (oH l x v)/\w.grownBy w2 (some tb)):=⟨wD.set hst,hg⟩
 have c0:w.cell? ⟨sb,0,none⟩=some (.map (some tb)):=by rw[bZ hr];rfl
 clear hrun hst hg hr hm
 go_enter Tryz.func199,Tryz.ntmps199
 go_wp2
 go_end0
 exact⟨rfl,HB.out⟩
def GQ(E:ah->ah)(t:ah):Option (ah×ah):=match pK t with
 |none=>none
 |some nv=>(iy E nv.2).map fun y=>(nv.1,y)
variable {t:ah}
theorem xP{nv:ah×ah}(h:pK t=some nv):nv.1.size<=t.size/\nv.2.size<=t.size/\0<nv.1.size:=by
 unfold pK at h
 split at h
 ·cases h
 rename_i hc
 obtain rfl:=ak h;have h1:=kD t;have h2:di (bD t)<=(bD t).size:=jX _ _;have h3:=kD ((bD (gL (bD t))).extract 1 (bD (gL (bD t))).size);have h4:=kD (gL (bD t));have h5:=yc (bD t);rw[aI] at h3;refine⟨?_,?_,?_⟩
 ·show(fo (bD t)).size<=_;rw[lX];omega
 ·show(bD _).size<=_;omega
 show 0<(fo (bD t)).size;rw[lX];omega
theorem zQ{n0:Nat}{l:iB}{ls:List iB}(h0:w.cell? ⟨rb,0,none⟩=some (.int .i64 n))(hg:Gl a w)(ht:t.size<=4000)(hr:w.heap[sb]?=some (.cells #[.map (some tb),q] 302 (0,0)))(hm:wD w tb n0 l)(hn:n0<=5000)(hs:lU w (.pointer (some ⟨sb,0,none⟩)) (l::ls))(hE:∀m∈l::ls,BOk m):
  Calls Tryz.prog 198 #[.pointer (some ⟨rb,0,none⟩),.string t,.pointer (some ⟨sb,0,none⟩)] w fun e w'=>match GQ (gy (l::ls)) t with
   |none=>jB n (iW a 4) e w'/\Below w.heap.size w w'
   |some xy=>e=.returned (.tuple #[])/\wD w' tb (n0+1) (oH l xy.1 xy.2)/\w.grownBy w' (some tb):=by
 have FO:Hid (Calls Tryz.prog 270 #[.pointer (some ⟨rb,0,none⟩),.string t] w fun e w'=>XM a n (pK t) e w'/\Below w.heap.size w w'):=qx rb n t a w h0 hg (by omega)
 have HV:Hid (GQ (gy (l::ls)) t=match pK t with
  |none=>none
  |some nv=>(iy (gy (l::ls)) nv.2).map fun y=>(nv.1,y)):=rfl
 have HSZ:Hid (∀nv,pK t=some nv->nv.1.size<=t.size/\nv.2.size<=t.size):=fun nv h=>⟨(xP h).1,(xP h).2.1⟩
 cases hb:pK t with
 |none=>
  rw[hb] at FO HV;rw[HV.out]
  go_enter Tryz.func198,Tryz.ntmps198
  go_wp2_with fail
  refine FO.out.mono ?_;rintro e w1 ⟨⟨b,rfl,s0,s1⟩,hb1⟩;exact⟨rfl,⟨b,rfl,s0,s1⟩,hb1⟩
 |some nv=>
  obtain⟨x,v⟩:=nv;have hsz:=HSZ.out _ hb;rw[hb] at FO HV;simp only at hsz
  have HX:Hid (∀w1,Below w.heap.size w w1->Calls Tryz.prog 201 #[.pointer (some ⟨rb,0,none⟩),.string v,.pointer (some ⟨sb,0,none⟩)] w1 fun e w'=>VS a n (iy (gy (l::ls)) v) e w'/\Below w1.heap.size w1 w'):=fun w1 hb1=>
   xS rb n v (l::ls) _ a w1 ((hb1.cell (p:=⟨rb,0,none⟩) (aC h0)).trans h0) (hs.keep hb1.block) (hg.keep hb1.size (fun k hk=>hb1.block k (ay hk hg.size))) (by omega) (fun y=>aA (NZ hE y) (by omega)) (Sn hE)
  have akL:Hid (∀w2 y,Below w.heap.size w w2->Calls Tryz.prog 199 #[.pointer (some ⟨sb,0,none⟩),.string x,.string y] w2 fun e w'=>e=.returned (.tuple #[])/\wD w' tb (n0+1) (oH l x y)/\w2.grownBy w' (some tb)):=fun w2 y hb2=>
   QZ ((hb2.block sb (bI hr)).trans hr) (dU.keep hm (hb2.block tb hm.lt)) (by omega) (by omega)
  clear hs hE h0 hg hr hm
  cases hx:iy (gy (l::ls)) v with
  |none=>
   rw[hx] at HX
   have HVN:Hid (GQ (gy (l::ls)) t=none):=by rw[HV.out];show(iy (gy (l::ls)) v).map _=_;rw[hx];rfl
   rw[HVN.out]
   go_enter Tryz.func198,Tryz.ntmps198
   go_wp2_with fail
   refine FO.out.mono ?_;rintro e w1 ⟨rfl,hb1⟩
   go_wp2_with fail
   refine(HX.out w1 hb1).mono ?_;rintro e w2 ⟨⟨b,rfl,s0,s1⟩,hb2⟩;exact⟨rfl,⟨b,rfl,s0,s1⟩,hb1.trans (hb2.mono hb1.size)⟩
  |some y=>
   rw[hx] at HX
   have HVN:Hid (GQ (gy (l::ls)) t=some (x,y)):=by rw[HV.out];show(iy (gy (l::ls)) v).map _=_;rw[hx];rfl
   rw[HVN.out]
   go_enter Tryz.func198,Tryz.ntmps198
   go_wp2_with fail
   refine FO.out.mono ?_;rintro e w1 ⟨rfl,hb1⟩
   go_wp2_with fail
   refine(HX.out w1 hb1).mono ?_;rintro e w2 ⟨rfl,hb2⟩
   go_wp2_with fail
   refine(akL.out w2 y (hb1.trans (hb2.mono hb1.size))).mono ?_;rintro e w3 ⟨rfl,hm3,hg3⟩;have HF:Hid (wD w3 tb (n0+1) (oH l x y)/\w.grownBy w3 (some tb)):=⟨hm3,SF (hb1.trans (hb2.mono hb1.size)) hg3⟩;clear hm3 hg3 hb1 hb2
   go_wp2_with fail
   go_end0
   exact⟨rfl,HF.out⟩
theorem Gj(top:iB):Di [] top=gy [top]:=by
 funext x
 show((eB [] x).or (eB top x)).getD _=(eB top x).getD _;rfl
theorem Oa(own top:iB):Di own top=gy [own,top]:=by
 funext x
 show((eB own x).or (eB top x)).getD _=(eB own x).getD ((eB top x).getD _)
 cases eB own x<;>rfl
def EG(t:ah):Option ah:=match pK t with
 |none=>none
 |some nv=>if nv.1≠xZ\/iy Gx nv.2=none then none else some nv.2
theorem NY:gy []=Gx:=rfl
theorem Be{x:dK}(h:ig p a B w rb n (x::rest) S m):
  Calls Tryz.prog 264 #[.pointer (some ⟨rb,0,none⟩)] w fun e w'=>match EG x.2 with
   |none=>jB (x.1:Nat) (iW a 4) e w'/\Below B w w'
   |some v=>e=.returned (.string v)/\(∃Er,ig {p with vl:=Er} a B w' rb (x.1:Nat) rest S m)/\w.grownBy w' (some rb):=by
 have HT:=aP (Me h);have hts:x.2.size<=4000:=h.ok.lines x aM
 have Rl:Hid (∀w',w.grownBy w' (some rb)->Below B w w'):=fun w' hg=>jL hg h.vV (aA h.vV (iM h.qi))
 have HBw:=aP (aA h.vV (iM h.qi))
 have HC:Hid (EG x.2=match pK x.2 with
  |none=>none
  |some nv=>if nv.1≠xZ\/iy Gx nv.2=none then none else some nv.2):=rfl
 have HSZ:Hid (∀nv,pK x.2=some nv->nv.2.size<=x.2.size):=fun nv h=>(xP h).2.1
 obtain⟨xn,xt⟩:=x;simp only at hts HC HSZ HT
 show Calls _ _ _ _ fun e w'=>match EG xt with
  |none=>jB (xn:Nat) (iW a 4) e w'/\Below B w w'
  |some v=>e=.returned (.string v)/\(∃Er,ig {p with vl:=Er} a B w' rb (xn:Nat) rest S m)/\w.grownBy w' (some rb)
 clear h
 cases hb:pK xt with
 |none=>
  rw[hb] at HC;rw[HC.out]
  go_enter Tryz.func264,Tryz.ntmps264
  go_wp2_with fail
  refine HT.out.mono ?_;rintro e w1 ⟨rfl,⟨Er,hp1⟩,hg1⟩;have FO:=qx rb (xn:Nat) xt a w1 hp1.Jg hp1.gl (by omega);rw[hb] at FO;have HB1:=aP (Rl.out w1 hg1);clear hp1 hg1
  go_wp2_with fail
  refine FO.mono ?_;rintro e w2 ⟨⟨b,rfl,s0,s1⟩,hb2⟩;exact⟨rfl,⟨b,rfl,s0,s1⟩,HB1.out.trans (hb2.mono (aA HBw.out HB1.out.size))⟩
 |some nv=>
  obtain⟨k,v⟩:=nv;have hvs:=HSZ.out _ hb;rw[hb] at HC;simp only at HC hvs
  by_cases hk:k=xZ
  ·subst hk
   cases hx:iy Gx v with
   |none=>
    have HN:Hid (EG xt=none):=by rw[HC.out,aD (aL hx)];rfl
    rw[HN.out]
    go_enter Tryz.func264,Tryz.ntmps264
    go_wp2_with fail
    refine HT.out.mono ?_;rintro e w1 ⟨rfl,⟨Er,hp1⟩,hg1⟩;have FO:=qx rb (xn:Nat) xt a w1 hp1.Jg hp1.gl (by omega);rw[hb] at FO;have HB1:=aP (Rl.out w1 hg1);have tC:=aP hp1;clear hp1 hg1
    go_wp2_with fail
    refine FO.mono ?_;rintro e w2 ⟨rfl,hb2⟩;have qo:=tC.out.below hb2;have c4:w2.cell? ⟨4,0,none⟩=some (.iface 472 (.pointer (some (a 4)))):=qo.gl.errs 4 (by decide);have HX:=xS rb (xn:Nat) v [] (.pointer none) a w2 qo.Jg rfl qo.gl (by omega) (fun x=>aN _) rfl;rw[NY,hx] at HX;have HB2:=aP (HB1.out.trans (hb2.mono (aA HBw.out HB1.out.size)));clear qo hb2 FO tC;unfold xZ
    go_wp2_with fail
    refine(gD _ _ _).mono ?_;rintro e w3 ⟨rfl,rfl⟩
    go_wp2_with fail
    refine HX.mono ?_;rintro e w4 ⟨⟨b,rfl,s0,s1⟩,hb4⟩;exact⟨rfl,⟨b,rfl,s0,s1⟩,HB2.out.trans (hb4.mono (aA HBw.out HB2.out.size))⟩
   |some y=>
    have HN:Hid (EG xt=some v):=by rw[HC.out,ax (by rw[hx];simp)];rfl
    rw[HN.out]
    go_enter Tryz.func264,Tryz.ntmps264
    go_wp2_with fail
    refine HT.out.mono ?_;rintro e w1 ⟨rfl,⟨Er,hp1⟩,hg1⟩;have FO:=qx rb (xn:Nat) xt a w1 hp1.Jg hp1.gl (by omega);rw[hb] at FO;have tC:=aP hp1;have HG1:=aP hg1;clear hp1 hg1
    go_wp2_with fail
    refine FO.mono ?_;rintro e w2 ⟨rfl,hb2⟩;have qo:=tC.out.below hb2;have akG:Hid (ig {p with vl:=Er} a B w2 rb (xn:Nat) rest S m):=qo;have c4:w2.cell? ⟨4,0,none⟩=some (.iface 472 (.pointer (some (a 4)))):=qo.gl.errs 4 (by decide);have HX:=xS rb (xn:Nat) v [] (.pointer none) a w2 qo.Jg rfl qo.gl (by omega) (fun x=>aN _) rfl;rw[NY,hx] at HX;have HG2:=aP (Kr HG1.out hb2);clear qo hb2 FO tC HG1;unfold xZ
    go_wp2_with fail
    refine(gD _ _ _).mono ?_;rintro e w3 ⟨rfl,rfl⟩
    go_wp2_with fail
    refine HX.mono ?_;rintro e w4 ⟨rfl,hb4⟩;have HF:Hid ((∃Er,ig {p with vl:=Er} a B w4 rb (xn:Nat) rest S m)/\w.grownBy w4 (some rb)):=⟨⟨Er,akG.out.below hb4⟩,Kr HG2.out hb4⟩;clear hb4 HX
    go_wp2_with fail
    go_ret;exact⟨rfl,HF.out⟩
  have HN:Hid (EG xt=none):=by rw[HC.out,aD (aG hk)];rfl
  have hq:(k.toList==[99,111,109,109,97,110,100])=false:=by
   have e:(⟨#[99,111,109,109,97,110,100]⟩:ah).toList=[99,111,109,109,97,110,100]:=by rw[dX]
   rw[<-e]
   cases hq:(k.toList==(⟨#[99,111,109,109,97,110,100]⟩:ah).toList) with
   |true=>exact absurd (xH hq) hk
   |false=>rfl
  rw[HN.out]
  go_enter Tryz.func264,Tryz.ntmps264
  go_wp2_with fail
  refine HT.out.mono ?_;rintro e w1 ⟨rfl,⟨Er,hp1⟩,hg1⟩;have FO:=qx rb (xn:Nat) xt a w1 hp1.Jg hp1.gl (by omega);rw[hb] at FO;have HB1:=aP (Rl.out w1 hg1);have tC:=aP hp1;clear hp1 hg1
  go_wp2_with fail
  refine FO.mono ?_;rintro e w2 ⟨rfl,hb2⟩;have qo:=tC.out.below hb2;have c4:w2.cell? ⟨4,0,none⟩=some (.iface 472 (.pointer (some (a 4)))):=qo.gl.errs 4 (by decide);have uR:=pq rb (xn:Nat) 472 (.pointer (some (a 4))) w2 qo.Jg;have HB2:=aP (HB1.out.trans (hb2.mono (aA HBw.out HB1.out.size)));clear qo hb2 FO tC
  go_wp2_with fail
  refine uR.mono ?_;rintro e w4 ⟨⟨b,rfl,s0,s1⟩,hb4⟩;exact⟨rfl,⟨b,rfl,s0,s1⟩,HB2.out.trans (hb4.mono (aA HBw.out HB2.out.size))⟩
def BD(b:FM):Nat:=Fin.val b
def iL(a:Nat->Addr)(B rb m:Nat)(w:aj)(r:Res)(e:Ending)(w':aj):Prop:=match r with
 |.error bk=>jB (bk.2:Nat) (iW a (BD bk.1)) e w'/\Below B w w'
 |.ok Sr=>e=.returned (.tuple #[])/\(∃p n,ig p a B w' rb n Sr.2 Sr.1 m)/\Below B w w'
theorem ab6{l:iB}(h:eB l x=none):oH l x v=l++[(x,v)]:=by
 induction l with
 |nil=>rfl
 |cons y l ih=>
  rw[sN] at h
  by_cases hy:y.1=x
  ·rw[aD hy] at h;cases h
  rw[ax hy] at h;rw[oH,ax hy,ih h];rfl
variable {i:Nat}
theorem PStB.off(_:PStB p a B w rb n ls S m)(hg:w.grownBy w' (some b))(hb:p.c b=i){k:Nat}(hk:k<w.heap.size)(hc:p.c k≠i):w'.heap[k]?=w.heap[k]?:=hg.block k hk (fun e=>hc (by rw[ak e];exact hb))
theorem ig.adm(h:ig p a B w rb n ls S (m+1))(hg:w.grownBy w' (some p.rm))(hm:wD w' p.rm (p.n2+1) (oH S.rules x v))(hx:eB S.rules x=none)(hv:v.size<=4000):ig {p with n2:=p.n2+1} a B w' rb n ls {S with rules:=S.rules++[(x,v)]} m:=by
 have off:=fun {k:Nat} (hk:k<w.heap.size) (hc:p.c k≠3)=>h.off hg h.c3 hk hc
 exact {
  gl:=h.gl.keep hg.size (fun k hk=>off (ay hk h.gl.size) (by rw[h.low k (ay hk h.base)];decide))
  base:=h.base
  row:=(off h.qi (by rw[h.c1];decide)).trans h.row
  const:=h.const.step hg.size (fun k hk h0=>⟨off hk (by rw[h0];decide),h0⟩)
  top:=dU.keep h.top (off h.top.lt (by rw[h.c2];decide))
  rules:=by rw[ab6 hx] at hm;exact hm
  mlt:=ay h.mlt (hg.size)
  made:=dU.keep h.made (off h.made.lt (by rw[h.c4];decide))
  jN:=dL h.jN (fun k hk=>off (bA h.jN k hk).2 (by rw[h.c5 k hk];decide))
  defs:=dL h.defs (fun k hk=>off (bA h.defs k hk).2 (by rw[h.c6 k hk];decide))
  c1:=h.c1,c2:=h.c2,c3:=h.c3,c4:=h.c4,c5:=h.c5,c6:=h.c6,low:=h.low
  few:=by show p.n1+m<=5000/\p.n2+1+m<=5000/\p.n3+8000*m<=40000000;have:=h.few;omega
  ok:={top:=h.ok.top,Mi:=(by show S.top.length+m<=5000;have:=h.ok.Mi;omega),rules:=(fun y hy=>by
       rcases bK.1 hy with hy|hy
       ·exact h.ok.rules y hy
       obtain rfl:=bg.1 hy
       exact hv),BX:=(by show(S.rules++[(x,v)]).length+m<=5000;rw[aF];have:=h.ok.BX;show _+1+m<=_;omega),bB:=h.ok.bB,edge:=h.ok.edge,defs:=(by show S.defs.length+4000*m<=_;have:=h.ok.defs;omega),lines:=h.ok.lines,count:=h.ok.count}}
variable {m':Nat}
theorem PStB.fewer(h:PStB p a B w rb n ls S m)(hm:m'<=m):PStB p a B w rb n ls S m':=
 {h with
  few:=by have:=h.few;omega
  ok:={h.ok with Mi:=(by have:=h.ok.Mi;omega),BX:=(by have:=h.ok.BX;omega),defs:=(by have:=h.ok.defs;omega)}}
theorem ig.fewer(h:ig p a B w rb n ls S m)(hm:m'<=m):ig p a B w rb n ls S m':=⟨h.toPStB.fewer hm,h.made⟩
theorem PStB.bw(h:PStB p a B w rb n ls S m):B<=w.heap.size:=aA h.vV (iM h.qi)
end
section
open Go.RowKit Go.Shelf
theorem Xc(t:ah)(c d:UInt8):Lib.hasPrefix t.data.toList [c,d]=decide (1<t.size/\byteOf t 0=c.toNat/\byteOf t 1=d.toNat):=by
 unfold Lib.hasPrefix byteOf;rw[<-bV,<-bV]
 have hs:t.size=t.data.toList.length:=by rw[aR];rfl
 rw[hs]
 cases t.data.toList with
 |nil=>rfl
 |cons x l=>
  cases l with
  |nil=>
   show(c==x&&false)=_
   simp
  |cons y l=>
   show(c==x&&(d==y&&([]:List UInt8).isPrefixOf l))=_;rw[sW]
   simp
   exact⟨fun e=>⟨by rw[e.1],by rw[e.2]⟩,fun e=>⟨(qc.1 e.1).symm,(qc.1 e.2).symm⟩⟩
theorem Hq(t:ah)(c:UInt8)(h:0<t.size)(hc:byteOf t 0=c.toNat):t.extract 0 1=⟨#[c]⟩:=by
 apply ByteArray.ext;apply fD.1;rw[gq,Pk];unfold byteOf at hc;rw[<-bV] at hc
 have hs:t.size=t.data.toList.length:=by rw[aR];rfl
 rw[hs] at h
 cases hl:t.data.toList with
 |nil=>rw[hl] at h;exact absurd h (by simp)
 |cons x l=>
  rw[hl] at hc;have:x=c:=qc.1 (by simpa using hc);rw[this];rfl
theorem wz{p:ah}{l:List UInt8}(h:¬p=⟨l.toArray⟩):(p.toList==l)=false:=by
 cases hq:(p.toList==l) with
 |true=>exact absurd (xH (by rw[dX ⟨l.toArray⟩];exact hq)) h
 |false=>rfl
theorem RO(t:ah)(c:Nat):fQ t c=decide (0<t.size/\byteOf t 0=c):=rfl
theorem WI(u:ah)(w:aj):
  Calls Tryz.prog 319 #[.string u] w fun e w'=>e=.returned (.string (jI u))/\w'=w:=by
 have qo:Hid (∀wx,Calls Tryz.prog 193 #[.string u,.string ⟨#[124,124]⟩] wx fun e w'=>e=.returned (.bool (decide (1<u.size/\byteOf u 0=124/\byteOf u 1=124)))/\w'=wx):=fun wx=>by
  have:=Any.strings_HasPrefix Tryz.lays99 u ⟨#[124,124]⟩ wx;rw[show(⟨#[124,124]⟩:ah).data.toList=[124,124] from rfl,Xc] at this;exact this
 have tC:Hid (∀wx,Calls Tryz.prog 193 #[.string u,.string ⟨#[124]⟩] wx fun e w'=>e=.returned (.bool (fQ u 124))/\w'=wx):=fun wx=>pR u 124 wx
 have Ep:Hid (∀wx,Calls Tryz.prog 193 #[.string u,.string ⟨#[58]⟩] wx fun e w'=>e=.returned (.bool (fQ u 58))/\w'=wx):=fun wx=>pR u 58 wx
 have HM:Hid (jI u=if fQ u 124=true then (if 1<u.size/\byteOf u 1=124 then uO else nT) else if fQ u 58=true then ab9 else ⟨#[]⟩):=rfl
 by_cases h2:1<u.size/\byteOf u 0=124/\byteOf u 1=124
 ·have HF:Hid (jI u=⟨#[124,124]⟩):=by
   rw[HM.out,RO,bN (show 0<u.size/\byteOf u 0=124 from⟨by omega,h2.2.1⟩),aD rfl,aD ⟨h2.1,h2.2.2⟩];rfl
  rw[bN h2] at qo
  go_enter Tryz.func319,Tryz.ntmps319
  go_wp2_with fail
  refine(qo.out _).mono ?_;rintro e w1 ⟨rfl,rfl⟩
  go_wp2_with fail
  go_ret;exact⟨by rw[HF.out];rfl,rfl⟩
 rw[bH h2] at qo
 by_cases h1:0<u.size/\byteOf u 0=124
 ·have hb:fQ u 124=true:=bN h1
  have HF:Hid (jI u=⟨#[124]⟩):=by rw[HM.out,aD hb,ax (fun h=>h2 ⟨h.1,h1.2,h.2⟩)];rfl
  have hsl:∀wx,(Instr.slice 9 (.string u) none (some (.int .i64 1)) none).run Tryz.prog wx=.ok (.string ⟨#[124]⟩) wx:=fun wx=>by
   have:=qD u 1 (by omega) wx;rw[Hq u 124 h1.1 h1.2] at this;exact this
  rw[hb] at tC
  go_enter Tryz.func319,Tryz.ntmps319
  go_wp2_with fail
  refine(qo.out _).mono ?_;rintro e w1 ⟨rfl,rfl⟩
  go_wp2_with fail
  refine(tC.out _).mono ?_;rintro e w1 ⟨rfl,rfl⟩
  go_wp2_with fail
  go_ret;exact⟨by rw[HF.out];rfl,rfl⟩
 have hb:fQ u 124=false:=bH h1;rw[hb] at tC
 by_cases h3:0<u.size/\byteOf u 0=58
 ·have hb3:fQ u 58=true:=bN h3
  have HF:Hid (jI u=⟨#[58]⟩):=by rw[HM.out,hb,ax (by decide),aD hb3];rfl
  have hsl:∀wx,(Instr.slice 9 (.string u) none (some (.int .i64 1)) none).run Tryz.prog wx=.ok (.string ⟨#[58]⟩) wx:=fun wx=>by
   have:=qD u 1 (by omega) wx;rw[Hq u 58 h3.1 h3.2] at this;exact this
  rw[hb3] at Ep
  go_enter Tryz.func319,Tryz.ntmps319
  go_wp2_with fail
  refine(qo.out _).mono ?_;rintro e w1 ⟨rfl,rfl⟩
  go_wp2_with fail
  refine(tC.out _).mono ?_;rintro e w1 ⟨rfl,rfl⟩
  go_wp2_with fail
  refine(Ep.out _).mono ?_;rintro e w1 ⟨rfl,rfl⟩
  go_wp2_with fail
  go_ret;exact⟨by rw[HF.out];rfl,rfl⟩
 have hb3:fQ u 58=false:=bH h3
 have HF:Hid (jI u=⟨#[]⟩):=by rw[HM.out,hb,hb3,ax (by decide),ax (by decide)];rfl
 rw[hb3] at Ep
 go_enter Tryz.func319,Tryz.ntmps319
 go_wp2_with fail
 refine(qo.out _).mono ?_;rintro e w1 ⟨rfl,rfl⟩
 go_wp2_with fail
 refine(tC.out _).mono ?_;rintro e w1 ⟨rfl,rfl⟩
 go_wp2_with fail
 refine(Ep.out _).mono ?_;rintro e w1 ⟨rfl,rfl⟩
 go_wp2_with fail
 go_ret;exact⟨by rw[HF.out];rfl,rfl⟩
end
theorem LU(p:Nat->Bool):∀(l:List UInt8) (c:UInt8),l[Bg p l]?=some c->p c.toNat=false
 |[],c,h=>by cases h
 |x::l,c,h=>by
  rw[Bg] at h
  by_cases hp:p x.toNat=true
  ·rw[aD hp] at h;exact LU p l c (by simpa using h)
  rw[ax hp] at h;simp only[jk,Option.some.injEq] at h;subst h;exact yU.2 hp
theorem Wz(t:ah)(h:(bD t).size≠0):byteOf (bD t) 0≠32:=by
 rw[KN] at h;unfold bD;rw[kC _ _ _ _ (by omega) (ai _),kT]
 have hl:BF t<t.data.toList.length:=by rw[aR];show _<t.size;omega
 have h1:=LU agi t.data.toList (t.data.toList[BF t]) (by exact eP hl);rw[uX (eP hl)];intro e;rw[e] at h1;exact absurd h1 (by decide)
variable {u:ah}
theorem ZA(h:jI u=⟨#[]⟩):fQ u 124=false/\fQ u 58=false:=by
 unfold jI at h
 split at h
 ·split at h
  ·exact absurd h (by decide)
  exact absurd h (by decide)
 rename_i h1
 split at h
 ·exact absurd h (by decide)
 rename_i h2
 exact⟨yU.2 h1,yU.2 h2⟩
theorem Cu(h:jI u≠⟨#[]⟩):1<=(jI u).size/\(jI u).size<=u.size:=by
 unfold jI at*
 split
 ·rename_i h1
  have:=fC h1
  split
  ·rename_i h2
   exact⟨by decide,by show 2<=_;omega⟩
  exact⟨by decide,by show 1<=_;omega⟩
 rename_i h1
 split
 ·rename_i h2
  have:=fC h2;exact⟨by decide,by show 1<=_;omega⟩
 rename_i h2
 rw[ax h1,ax h2] at h;exact absurd rfl h
theorem yI(u:ah)(h:(bD u).size≠0)(hm:jI (bD u)=⟨#[]⟩):1<=kL (bD u)/\kL (bD u)<=(bD u).size:=by
 have h1:=Wz u h;obtain⟨h2,h3⟩:=ZA hm;have h2:=xX h2;have h3:=xX h3;unfold kL;refine⟨?_,Nat.min_le_right _ _⟩
 have hs:1<=qC Kz (bD u):=by
  unfold qC
  by_cases hd:byteOf (bD u) 0=36
  ·rw[Eg _ _ _ (by omega) hd];have:=(OV Kz (bD u) _ (0+2) (ai _) (by omega)).1;omega
  rw[Ca _ _ _ (by omega) hd (by unfold Kz;exact bH (by omega))];exact(OV Kz (bD u) _ (0+1) (ai _) (by omega)).1
 omega
theorem uG(E:ah->ah)(ms:List ah):∀(g g':Nat) (u:ah) (a:jh),u.size<g->u.size<g'->jK E ms g u a=jK E ms g' u a
 |0,_,_,_,h,_=>by omega
 |_+1,0,_,_,_,h=>by omega
 |g+1,g'+1,u,a,h,h'=>by
  rw[jK,jK];have hle:=kD u
  by_cases h0:(bD u).size=0
  ·rw[aD h0,aD h0]
  rw[ax h0,ax h0]
  by_cases hm:jI (bD u)=⟨#[]⟩
  ·rw[aD hm,aD hm];have hp:=yI u h0 hm
   cases qU E ((bD u).extract 0 (kL (bD u))) with
   |error e=>rfl
   |ok p=>exact uG E ms g g' _ _ (by rw[aI];omega) (by rw[aI];omega)
  rw[ax hm,ax hm];have hz:=Cu hm
  by_cases hb:eT (jI (bD u)) ms=true
  ·rw[aD hb,aD hb];exact uG E ms g g' _ _ (by rw[aI];omega) (by rw[aI];omega)
  rw[ax hb,ax hb]
theorem TW(E:ah->ah)(ms:List ah)(u:ah)(a:jh)(h:(bD u).size=0):qh E ms u a=.ok a:=by
 unfold qh;rw[jK,aD h]
theorem QL(E:ah->ah)(ms:List ah)(u:ah)(a:jh)(h:(bD u).size≠0)(hm:jI (bD u)=⟨#[]⟩):qh E ms u a=(match qU E ((bD u).extract 0 (kL (bD u))) with
  |.error e=>.error e
  |.ok p=>qh E ms ((bD u).extract (kL (bD u)) (bD u).size) (tZ a p)):=by
 have hle:=kD u;have hp:=yI u h hm;unfold qh
 conv=>lhs;rw[jK,ax h,aD hm]
 cases qU E ((bD u).extract 0 (kL (bD u))) with
 |error e=>rfl
 |ok p=>exact uG E ms _ _ _ _ (by rw[aI];omega) (by omega)
theorem QJ(E:ah->ah)(ms:List ah)(u:ah)(a:jh)(h:(bD u).size≠0)(hm:jI (bD u)≠⟨#[]⟩):qh E ms u a=if eT (jI (bD u)) ms=true then qh E ms ((bD u).extract (jI (bD u)).size (bD u).size) (a++[(jI (bD u),[])]) else .error .syn:=by
 have hle:=kD u;have hz:=Cu hm;unfold qh
 conv=>lhs;rw[jK,ax h,ax hm]
 by_cases hb:eT (jI (bD u)) ms=true
 ·rw[aD hb,aD hb];exact uG E ms _ _ _ _ (by rw[aI];omega) (by omega)
 rw[ax hb,ax hb]
theorem EA(I:jh)(mk:ah)(l:List ah)(p:ah):tZ (I++[(mk,l)]) p=I++[(mk,l++[p])]:=by
 unfold tZ;rw[List.getLast?_append,List.getLast?_singleton]
 simp
section
open Go.RowKit Go.Shelf
def TV(a:Nat->Addr)(n:Int)(r:Except FM ah)(e:Ending)(w':aj):Prop:=match r with
 |.ok p=>e=.returned (.string p)
 |.error b=>jB n (iW a (BD b)) e w'
theorem QU(rb:Nat)(n:Int)(t:ah)(ls:List iB)(ao:Option Addr)(a:Nat->Addr)(w:aj)(h0:w.cell? ⟨rb,0,none⟩=some (.int .i64 n))(h2:w.cell? ⟨rb,2,none⟩=some (.pointer ao))(hs:lU w (.pointer ao) ls)(hg:Gl a w)(ht:t.size<=1048576)(hE:∀l∈ls,BOk l):
  Calls Tryz.prog 320 #[.pointer (some ⟨rb,0,none⟩),.string t] w fun e w'=>TV a n (qU (gy ls) t) e w'/\Below w.heap.size w w':=by
 have HX:Hid (Calls Tryz.prog 201 #[.pointer (some ⟨rb,0,none⟩),.string t,.pointer ao] w fun e w'=>VS a n (iy (gy ls) t) e w'/\Below w.heap.size w w'):=xS rb n t ls _ a w h0 hs hg ht (fun x=>aA (NZ hE x) (by omega)) (Sn hE)
 have HPS:Hid (qU (gy ls) t=match iy (gy ls) t with
  |none=>.error .syn
  |some p=>if mH p=true then .ok p else .error .nam):=rfl
 have H0:=aP h0;have HG:=aP hg;have HGS:=aP hg.size;have hrb:rb<w.heap.size:=aC h0;clear hs hg hE h0
 cases hx:iy (gy ls) t with
 |none=>
  have HF:Hid (qU (gy ls) t=.error .syn):=by rw[HPS.out,hx];rfl
  rw[hx] at HX
  go_enter Tryz.func320,Tryz.ntmps320
  go_wp2_with fail
  refine HX.out.mono ?_;rintro e w1 ⟨⟨b,rfl,s0,s1⟩,hb1⟩;exact⟨rfl,(by rw[HF.out];exact⟨b,rfl,s0,s1⟩),hb1⟩
 |some p=>
  rw[hx] at HX HPS
  have Vo:Hid (∀wx,Calls Tryz.prog 73 #[.string p] wx fun e w'=>e=.returned (.bool (eD p))/\w'=wx):=fun wx=>sG p wx
  have HOK:Hid (mH p=(eD p&&!decide (p=jJ)&&!decide (p=fV))):=rfl
  by_cases hok:mH p=true
  ·have HF:Hid (qU (gy ls) t=.ok p):=(show qU (gy ls) t=(if mH p=true then .ok p else .error .nam) from HPS.out).trans (aD hok);rw[HOK.out] at hok;simp only[qW,Bool.not_eq_true',rz] at hok;obtain⟨⟨hn,hl1⟩,hl2⟩:=hok;have q1:(p.toList==[46,108,111,103])=false:=wz hl1;have q2:(p.toList==[46,108,111,103,46,110,101,119])=false:=wz hl2;rw[hn] at Vo;clear HOK
   go_enter Tryz.func320,Tryz.ntmps320
   go_wp2_with fail
   refine HX.out.mono ?_;rintro e w1 ⟨rfl,hb1⟩;have HB1:=aP hb1;have c0:w1.cell? ⟨0,0,none⟩=some (.iface 472 (.pointer (some (a 0)))):=(HG.out.below hb1 HGS.out).errs 0 (by decide);clear hb1
   go_wp2_with fail
   go_region_with (first|(go_at_call 73;refine(Vo.out _).mono ?_;rintro e w8 ⟨rfl,rfl⟩)|(go_at_call 112;refine(gD _ _ _).mono ?_;rintro e w8 ⟨rfl,rfl⟩))
   all_goals
    go_wp2_with fail
    go_ret;exact⟨by rw[HF.out];rfl,HB1.out.drew⟩
  have HF:Hid (qU (gy ls) t=.error .nam):=(show qU (gy ls) t=(if mH p=true then .ok p else .error .nam) from HPS.out).trans (ax hok);rw[HOK.out] at hok
  cases hn:eD p with
  |false=>
   rw[hn] at Vo;clear HOK hok
   go_enter Tryz.func320,Tryz.ntmps320
   go_wp2_with fail
   refine HX.out.mono ?_;rintro e w1 ⟨rfl,hb1⟩;have uR:Hid (Calls Tryz.prog 112 #[.pointer (some ⟨rb,0,none⟩),.bool false,.iface 472 (.pointer (some (a 0)))] w1.drew fun e w'=>jB n (iW a 0) e w'/\Below w.heap.size w w'):=(pq rb n _ _ w1.drew ((hb1.cell (p:=⟨rb,0,none⟩) hrb).trans H0.out)).mono (fun e w' h=>⟨h.1,hb1.drew.trans (h.2.mono hb1.size)⟩);have c0:w1.cell? ⟨0,0,none⟩=some (.iface 472 (.pointer (some (a 0)))):=(HG.out.below hb1 HGS.out).errs 0 (by decide);clear hb1
   go_wp2_with fail
   refine jT (by kernel_rfl) ?_;change wpAny _ _ _ _ _ _ _ (World.drew _);refine uA 0 (.pointer (some ⟨rb,0,none⟩)) rfl ?_<|uA 1 (.string p) rfl ?_ ?_;(iterate 2 ·exact⟨by kernel_rfl,kI,by intro w;go_simp⟩)
   refine pA 2 11 rfl rfl (by kernel_rfl) (fun K hK=>?_) fun K hK=>?_
   ·go_simp
    go_wp2_with (go_at_call 73;refine(Vo.out _).mono ?_;rintro e w8 ⟨rfl,rfl⟩)
    refine uA 3 (.bool false) rfl ⟨by kernel_rfl,kI,by intro w;go_simp⟩ ?_;refine sA 4 rfl (by kernel_rfl) kI ?_;refine sA 5 rfl (by kernel_rfl) kI ?_;refine uA 6 (.bool false) rfl ?_<|uA 7 (.bool false) rfl ?_ ?_;(iterate 2 ·exact⟨by kernel_rfl,kI,by intro w;go_simp⟩);refine sA 8 rfl (by kernel_rfl) kI ?_;refine sA 9 rfl (by kernel_rfl) kI ?_;refine uA 10 (.bool false) rfl ⟨by kernel_rfl,kI,by intro w;go_simp⟩ ?_
    refine rA 11 rfl (by kernel_rfl) fun K hK=>?_
    go_simp;refine hK _ _ ?_;clear hK K
    refine rA 12 rfl (by kernel_rfl) fun K hK=>?_
    go_simp;refine uR.out.mono ?_;rintro e w8 ⟨hst,mr⟩;obtain⟨b,rfl,s0,s1⟩:=hst;exact⟨rfl,(by rw[HF.out];exact⟨b,rfl,s0,s1⟩),mr⟩
   go_simp;refine hK _ _ ?_;clear hK K
   refine rA 2 rfl (by kernel_rfl) fun K hK=>?_
   go_simp
   go_wp2_with (go_at_call 73;refine(Vo.out _).mono ?_;rintro e w8 ⟨rfl,rfl⟩)
   refine uA 3 (.bool false) rfl ⟨by kernel_rfl,kI,by intro w;go_simp⟩ ?_;refine sA 4 rfl (by kernel_rfl) kI ?_;refine sA 5 rfl (by kernel_rfl) kI ?_;refine uA 6 (.bool false) rfl ?_<|uA 7 (.bool false) rfl ?_ ?_;(iterate 2 ·exact⟨by kernel_rfl,kI,by intro w;go_simp⟩);refine sA 8 rfl (by kernel_rfl) kI ?_;refine sA 9 rfl (by kernel_rfl) kI ?_;refine uA 10 (.bool false) rfl ⟨by kernel_rfl,kI,by intro w;go_simp⟩ ?_
   refine rA 12 rfl (by kernel_rfl) fun K hK=>?_
   go_simp;refine uR.out.mono ?_;rintro e w8 ⟨hst,mr⟩;obtain⟨b,rfl,s0,s1⟩:=hst;exact⟨rfl,(by rw[HF.out];exact⟨b,rfl,s0,s1⟩),mr⟩
  |true=>
   rw[hn] at Vo hok
   by_cases hl1:p=jJ
   ·subst hl1;clear HOK hok;unfold jJ at*
    go_enter Tryz.func320,Tryz.ntmps320
    go_wp2_with fail
    refine HX.out.mono ?_;rintro e w1 ⟨rfl,hb1⟩;have uR:Hid (Calls Tryz.prog 112 #[.pointer (some ⟨rb,0,none⟩),.bool false,.iface 472 (.pointer (some (a 0)))] w1.drew fun e w'=>jB n (iW a 0) e w'/\Below w.heap.size w w'):=(pq rb n _ _ w1.drew ((hb1.cell (p:=⟨rb,0,none⟩) hrb).trans H0.out)).mono (fun e w' h=>⟨h.1,hb1.drew.trans (h.2.mono hb1.size)⟩);have c0:w1.cell? ⟨0,0,none⟩=some (.iface 472 (.pointer (some (a 0)))):=(HG.out.below hb1 HGS.out).errs 0 (by decide);clear hb1
    go_wp2_with fail
    refine jT (by kernel_rfl) ?_;change wpAny _ _ _ _ _ _ _ (World.drew _);refine uA 0 (.pointer (some ⟨rb,0,none⟩)) rfl ?_<|uA 1 (.string ⟨#[46,108,111,103]⟩) rfl ?_ ?_;(iterate 2 ·exact⟨by kernel_rfl,kI,by intro w;go_simp⟩)
    refine pA 2 11 rfl rfl (by kernel_rfl) (fun K hK=>?_) fun K hK=>?_
    ·go_simp
     go_wp2_with (go_at_call 73;refine(Vo.out _).mono ?_;rintro e w8 ⟨rfl,rfl⟩)
     refine uA 3 (.bool true) rfl ?_<|uA 4 (.string ⟨#[46,108,111,103]⟩) rfl ?_<|uA 5 (.bool false) rfl ?_<|uA 6 (.bool false) rfl ?_<|uA 7 (.bool false) rfl ?_ ?_;(iterate 5 ·exact⟨by kernel_rfl,kI,by intro w;go_simp⟩);refine sA 8 rfl (by kernel_rfl) kI ?_;refine sA 9 rfl (by kernel_rfl) kI ?_;refine uA 10 (.bool false) rfl ⟨by kernel_rfl,kI,by intro w;go_simp⟩ ?_
     refine rA 11 rfl (by kernel_rfl) fun K hK=>?_
     go_simp;refine hK _ _ ?_;clear hK K
     refine rA 12 rfl (by kernel_rfl) fun K hK=>?_
     go_simp;refine uR.out.mono ?_;rintro e w8 ⟨hst,mr⟩;obtain⟨b,rfl,s0,s1⟩:=hst;exact⟨rfl,(by rw[HF.out];exact⟨b,rfl,s0,s1⟩),mr⟩
    go_simp;refine hK _ _ ?_;clear hK K
    refine rA 2 rfl (by kernel_rfl) fun K hK=>?_
    go_simp
    go_wp2_with (go_at_call 73;refine(Vo.out _).mono ?_;rintro e w8 ⟨rfl,rfl⟩)
    refine uA 3 (.bool true) rfl ?_<|uA 4 (.string ⟨#[46,108,111,103]⟩) rfl ?_<|uA 5 (.bool false) rfl ?_<|uA 6 (.bool false) rfl ?_<|uA 7 (.bool false) rfl ?_ ?_;(iterate 5 ·exact⟨by kernel_rfl,kI,by intro w;go_simp⟩);refine sA 8 rfl (by kernel_rfl) kI ?_;refine sA 9 rfl (by kernel_rfl) kI ?_;refine uA 10 (.bool false) rfl ⟨by kernel_rfl,kI,by intro w;go_simp⟩ ?_
    refine rA 12 rfl (by kernel_rfl) fun K hK=>?_
    go_simp;refine uR.out.mono ?_;rintro e w8 ⟨hst,mr⟩;obtain⟨b,rfl,s0,s1⟩:=hst;exact⟨rfl,(by rw[HF.out];exact⟨b,rfl,s0,s1⟩),mr⟩
   have hl2:p=fV:=by
    by_cases h:p=fV
    ·exact h
    exact absurd (by simp[hl1,h]) hok
   subst hl2;clear HOK hok hl1;unfold fV at*
   go_enter Tryz.func320,Tryz.ntmps320
   go_wp2_with fail
   refine HX.out.mono ?_;rintro e w1 ⟨rfl,hb1⟩;have uR:Hid (Calls Tryz.prog 112 #[.pointer (some ⟨rb,0,none⟩),.bool false,.iface 472 (.pointer (some (a 0)))] w1.drew fun e w'=>jB n (iW a 0) e w'/\Below w.heap.size w w'):=(pq rb n _ _ w1.drew ((hb1.cell (p:=⟨rb,0,none⟩) hrb).trans H0.out)).mono (fun e w' h=>⟨h.1,hb1.drew.trans (h.2.mono hb1.size)⟩);have c0:w1.cell? ⟨0,0,none⟩=some (.iface 472 (.pointer (some (a 0)))):=(HG.out.below hb1 HGS.out).errs 0 (by decide);clear hb1
   go_wp2_with fail
   go_region_with (first|(go_at_call 73;refine(Vo.out _).mono ?_;rintro e w8 ⟨rfl,rfl⟩)|(go_at_call 112;refine uR.out.mono ?_;rintro e w8 ⟨hst,mr⟩;obtain⟨b,rfl,s0,s1⟩:=hst;refine uj ⟨rfl,(by rw[HF.out];exact⟨b,rfl,s0,s1⟩),mr⟩ w1 ?_))
   all_goals trivial
abbrev FX:=List (ah×Value)
def sI(l:FX):List Value:=l.flatMap fun x=>[.string x.1,x.2]
theorem zB(l r:FX):sI (l++r)=sI l++sI r:=by simp[sI]
variable {i:Nat}
theorem GL{l:FX}{x:ah×Value}(h:l[i]?=some x):(sI l)[i*2]?=some (.string x.1)/\(sI l)[i*2+1]?=some x.2:=CF (fun x:ah×Value=>.string x.1) (fun x=>x.2) l i x h
theorem Xk(l:FX)(mk:ah)(pv pv':Value):(sI (l++[(mk,pv)])).set (l.length*2+1) pv'=sI (l++[(mk,pv')]):=by
 rw[zB,zB,MO _ _ (by unfold sI;rw[vB];omega)];unfold sI;rw[vB,show l.length*2+1-l.length*2=1 by omega];rfl
def gu(W0:Nat)(w:aj)(v:Value)(l:List ah):Prop:=bG w v l/\∀k,v.ownBlock=some k->W0<=k
def aeF(W0:Nat)(w:aj)(vs:FX)(I:jh):Prop:=vs.length=I.length/\∀(k:Nat) x y,vs[k]?=some x->I[k]?=some y->x.1=y.1/\gu W0 w x.2 y.2
structure jH(W0:Nat)(w wr:aj)(c:Nat->Nat)(v pv:Value)(vs:FX)(I:jh)(mk:ah)(l:List ah):Prop where
 secs:wr.ownsRow W0 399 2 v (vs.length+1) (sI (vs++[(mk,pv)]))
 last:wr.ownsRow W0 9 1 pv l.length (l.map Value.string)
 const:BA c wr (fun w=>aeF W0 w vs I)
 c1:∀k,v.ownBlock=some k->c k=1
 c2:∀k,pv.ownBlock=some k->c k=2
 low:∀k,k<W0->c k=0
 below:Below W0 w wr
variable {W0:Nat}{w wr w':aj}{c:Nat->Nat}{pv:Value}{vs:FX}{I:jh}{mk:ah}{l:List ah}
theorem jH.later{v:Value}(h:jH W0 w wr c v pv vs I mk l)(hb:Below wr.heap.size wr w')(hW:W0<=wr.heap.size):jH W0 w w' c v pv vs I mk l where
 secs:=dL h.secs (fun k hk=>hb.block k (bA h.secs k hk).2)
 last:=dL h.last (fun k hk=>hb.block k (bA h.last k hk).2)
 const:=h.const.step hb.size (fun k hk h0=>⟨hb.block k hk,h0⟩)
 c1:=h.c1
 c2:=h.c2
 low:=h.low
 below:=h.below.trans (hb.mono hW)
theorem zU{base:Nat}{v:Value}(h:w.ownsRow base 9 1 v l.length (l.map Value.string)):bG w v l:=by
 obtain⟨ao2,cap2,e,hc2,hg2⟩:=bq h;subst e;refine⟨ao2,cap2,rfl,hc2,?_⟩
 by_cases h0:l=[]
 ·refine aG ⟨fun e=>?_,h0,trivial⟩;obtain⟨_,⟨e2,_⟩|⟨g2,_,_,e2,_⟩⟩:=h
  ·injection e2
  injection e2 with e3 _ _;rw[e] at e3;cases e3
 obtain⟨g2,rfl⟩:=hg2 (fZ.2 h0);refine aL ⟨g2,0,rfl,fun k s hs=>?_⟩;rw[bW];exact(dO h k _ (by rw[dM,hs];rfl)).1
def ru(W0:Nat)(w:aj)(v:Value)(s:jh):Prop:=∃g cap,v=.slice (some ⟨g,0,none⟩) s.length cap/\s.length<=cap/\∃vs:FX,aeF W0 w vs s/\∀i x,vs[i]?=some x->w.cell? ⟨g,i*2,none⟩=some (.string x.1)/\w.cell? ⟨g,i*2+1,none⟩=some x.2
theorem jH.done{v:Value}(h:jH W0 w wr c v pv vs I mk l):ru W0 wr v (I++[(mk,l)]):=by
 obtain⟨ao,cap,rfl,hc,hg⟩:=bq h.secs;obtain⟨g,rfl⟩:=hg (by omega);have hcn:=h.const.now
 have hlen:(I++[(mk,l)]).length=vs.length+1:=by rw[aF,hcn.1];rfl
 refine⟨g,cap,by rw[hlen],by rw[hlen];exact hc,vs++[(mk,pv)],⟨by rw[aF,hlen];rfl,fun k x y hx hy=>?_⟩,fun i x hx=>?_⟩
 ·rcases bR k vs.length with q|q
  ·rw[bQ q] at hx;rw[bQ (by rw[<-hcn.1];exact q)] at hy;exact hcn.2 k x y hx hy
  have hk:k=vs.length:=by
   have:=(aJ.1 hx).1;rw[aF] at this
   simp at this
   omega
  subst hk;rw[dh (ai _),qj] at hx;rw[hcn.1,dh (ai _),qj] at hy;obtain rfl:=ak hx;obtain rfl:=ak hy;exact⟨rfl,zU h.last,fun k hk=>(bA h.last k hk).1⟩
 have hc2:=GL hx;exact⟨(dO h.secs _ _ hc2.1).1,(dO h.secs _ _ hc2.2).1⟩
theorem jH.more{v v':Value}{m2:ah}(h:jH W0 w wr c v pv vs I mk l)(hg:wr.grownBy w' v.ownBlock)(hv:w'.ownsRow W0 399 2 v' (vs.length+1+1) (sI (vs++[(mk,pv)]++[(m2,.slice none 0 0)])))(hat:∀k,v'.ownBlock=some k->v.ownBlock=some k\/wr.heap.size<=k)(hW:W0<=wr.heap.size):∃c',jH W0 w w' c' v' (.slice none 0 0) (vs++[(mk,pv)]) (I++[(mk,l)]) m2 []:=by
 have hoff:∀k,k<wr.heap.size->c k≠1->w'.heap[k]?=wr.heap[k]?:=fun k hk hc=>hg.block k hk (fun e=>hc (h.c1 k e.symm))
 refine⟨fun k=>if v'.ownBlock=some k then 1 else if c k=2 then 0 else if c k=1 then 3 else c k,?_⟩
 exact {
  secs:=by rw[aF];exact hv
  last:=dD _ _ _ _
  const:=fun w'' hs hk=>by
   have hk2:∀k,k<wr.heap.size->c k=0\/c k=2->w''.heap[k]?=wr.heap[k]?:=fun k h1 h2=>by
    refine(hk k (ay h1 hg.size) ?_).trans (hoff k h1 (by omega));show(if v'.ownBlock=some k then 1 else if c k=2 then 0 else if c k=1 then 3 else c k)=0
    rw[ax (fun e=>by
     rcases hat k e with q|q
     ·have:=h.c1 k q;omega
     omega)]
    rcases h2 with h2|h2
    ·rw[ax (by omega),ax (by omega)];exact h2
    rw[aD h2]
   have hcn:=h.const w'' (aA hg.size hs) (fun k h1 h2=>hk2 k h1 (aG h2));have hl:w''.ownsRow W0 9 1 pv l.length (l.map Value.string):=dL h.last (fun k hk'=>hk2 k (bA h.last k hk').2 (aL (h.c2 k hk')));refine⟨by rw[aF,aF,hcn.1];rfl,fun k x y hx hy=>?_⟩
   rcases bR k vs.length with q|q
   ·rw[bQ q] at hx;rw[bQ (by rw[<-hcn.1];exact q)] at hy;exact hcn.2 k x y hx hy
   have hkk:k=vs.length:=by
    have:=(aJ.1 hx).1;rw[aF] at this
    simp at this
    omega
   subst hkk;rw[dh (ai _),qj] at hx;rw[hcn.1,dh (ai _),qj] at hy;obtain rfl:=ak hx;obtain rfl:=ak hy;exact⟨rfl,zU hl,fun k hk=>(bA hl k hk).1⟩
  c1:=fun k hk=>aD hk
  c2:=fun k hk=>by cases hk
  low:=fun k hk=>by
   show(if v'.ownBlock=some k then 1 else if c k=2 then 0 else if c k=1 then 3 else c k)=0
   rw[ax (fun e=>by
    rcases hat k e with q|q
    ·have:=h.c1 k q;have:=h.low k hk;omega
    omega)]
   have:=h.low k hk;rw[ax (by omega),ax (by omega)];exact this
  below:=h.below.grown hg hW (fun k hk=>(bA h.secs k hk).1)}
variable {w6:aj}{g cap:Nat}
theorem jH.add{pv':Value}{p:ah}{n:Nat}(h:jH W0 w wr c (.slice (some ⟨g,0,none⟩) n cap) pv vs I mk l)(hn:n=vs.length+1)(hg:wr.grownBy w6 pv.ownBlock)(hl:w6.ownsRow W0 9 1 pv' (l.length+1) (l.map Value.string++[.string p]))(hat:∀k,pv'.ownBlock=some k->pv.ownBlock=some k\/wr.heap.size<=k)(hW:W0<=wr.heap.size):∃c',jH W0 w (w6.setCell ⟨g,vs.length*2+1,none⟩ pv') c' (.slice (some ⟨g,0,none⟩) n cap) pv' vs I mk (l++[p]):=by
 have hgc:c g=1:=h.c1 g rfl;have hgb:=bA h.secs g rfl
 have hoff:∀k,k<wr.heap.size->c k≠2->w6.heap[k]?=wr.heap[k]?:=fun k hk hc=>hg.block k hk (fun e=>hc (h.c2 k e.symm))
 have hne:pv'.ownBlock≠some g:=fun e=>by
  rcases hat g e with q|q
  ·have:=h.c2 g q;omega
  omega
 refine⟨fun k=>if pv'.ownBlock=some k then 2 else c k,?_⟩
 have hs6:w6.ownsRow W0 399 2 (.slice (some ⟨g,0,none⟩) n cap) n (sI (vs++[(mk,pv)])):=by
  have h1:=dL h.secs (w':=w6) (fun k hk=>by
   have e:g=k:=ak hk;subst e
   exact hoff _ hgb.2 (by rw[hgc];decide))
  rw[hn];rw[hn] at h1;exact h1
 exact {
  secs:=by
   have h1:=FB hs6 (vs.length*2+1) pv';rw[Xk] at h1;rw[<-hn];exact h1
  last:=by
   rw[aF,iC];exact dL hl (fun k hk=>iP (fun e=>hne (by rw[<-show k=g from e];exact hk)))
  const:=h.const.step (by simpa using hg.size) (fun k hk h0=>⟨by
   rw[iP (show k≠g from fun e=>by rw[e] at h0;omega)]
   exact hoff k hk (by omega),by
   show(if pv'.ownBlock=some k then 2 else c k)=0
   rw[ax (fun e=>by
    rcases hat k e with q|q
    ·have:=h.c2 k q;omega
    omega)]
   exact h0⟩)
  c1:=fun k hk=>by
   have e:g=k:=ak hk;subst e;show(if pv'.ownBlock=some g then 2 else c g)=1;rw[ax hne];exact hgc
  c2:=fun k hk=>aD hk
  low:=fun k hk=>by
   show(if pv'.ownBlock=some k then 2 else c k)=0
   rw[ax (fun e=>by
    rcases hat k e with q|q
    ·have:=h.c2 k q;have:=h.low k hk;omega
    omega)]
   exact h.low k hk
  below:=(h.below.grown hg hW (fun k hk=>(bA h.last k hk).1)).setCell (p:=⟨g,vs.length*2+1,none⟩) hgb.1 _}
theorem jH.still{n:Nat}(h:jH W0 w wr c (.slice (some ⟨g,0,none⟩) n cap) pv vs I mk l)(hn:n=vs.length+1)(hg:wr.grownBy w6 pv.ownBlock):w6.cell? ⟨g,vs.length*2+1,none⟩=some pv/\w6.frozen? ⟨g,vs.length*2+1,none⟩=false:=by
 have hgc:c g=1:=h.c1 g rfl;have hgb:=bA h.secs g rfl
 have h1:=dL h.secs (w':=w6) (fun k hk=>by
  have e:g=k:=ak hk;subst e
  exact hg.block _ hgb.2 (fun e=>by have:=h.c2 g e.symm;omega))
 rw[<-hn] at h1;exact dO h1 (vs.length*2+1) pv (GL (l:=vs++[(mk,pv)]) (i:=vs.length) (x:=(mk,pv)) (by simp)).2
theorem PZ(ms:List ah)(v:Value)(x:ah)(w:aj)(h:bG w v ms)(hl:ms.length<=1048576):
  Calls Tryz.prog 321 #[v,.string x] w fun e w'=>e=.returned (.bool (eT x ms))/\w'=w:=by
 obtain⟨ao,cap,rfl,hc,h⟩:=h
 have hm:∀zs:List ah,Lib.containsS zs x=eT x zs:=fun zs=>by
  rw[sW,Lib.containsS_iff];unfold eT;rw[aaT];exact⟨fun h=>⟨x,h,bN rfl⟩,fun ⟨y,h1,h2⟩=>by rw[<-fC h2];exact h1⟩
 rcases h with ⟨_,rfl,_⟩|⟨b,o,rfl,h⟩
 ·exact Any.slices_Contains_string_empty Tryz.lays110 ao cap x w
 refine(Any.slices_Contains_string Tryz.lays110 b o ms.length cap ms x w (ai _) (by omega) (fun j hj=>?_)).mono ?_
 ·rw[h j (ms[j]) (by simp)]
  simp[List.getD,hj]
 rintro e w' ⟨rfl,rfl⟩;rw[rf,hm];exact⟨rfl,rfl⟩
