import Derived.Test.YthhbpebihgjpjaaGreatDoorZ49
namespace Go.Proofs.YthhbpebihgjpjaaGreatDoor
set_option maxRecDepth 1000000
set_option maxHeartbeats 20000000
set_option linter.all false
section
open Go.RowKit Go.Maps
def PO(fb wb:Nat)(x:ah)(vt:Value)(w:ak):Prop:=w.cell? ⟨wb,0,none⟩=some (.pointer (some ⟨fb,0,none⟩))/\w.cell? ⟨wb,1,none⟩=some (.string x)/\w.cell? ⟨wb,2,none⟩=some vt
variable {w0 w:ak}{A:Nat->Nat}{a:Nat->Addr}{t:Nat->ah}{left fb wb:Nat}{r:bY}{v:KV}
theorem KW.kH(h:KW w0 A a t left fb wb r v w):PO fb wb v.x (v.v 2) w:=by
 have c:∀i,w.cell? ⟨wb,i,none⟩=(#[.pointer (some ⟨fb,0,none⟩),.string v.x,v.v 2,v.v 3,v.v 4,.bool v.vo]:Array Value)[i]?:=fun i=>aj _ _ _ _ _ _ h.row
 exact⟨c 0,c 1,c 2⟩
structure aaT(A:Nat->Nat)(rb:Nat)(J:fB)(w:ak):Prop where
 row:∃r1 r2 r3 r4,w.heap[rb]?=some (.cells #[r1,r2,r3,r4] 36 (0,0))/\NJ w r1 r2 r3 r4 J/\∀k,(r1.ownBlock=some k\/r2.ownBlock=some k\/r3.ownBlock=some k\/r4.ownBlock=some k)->A k=0
 col:A rb≠1
variable {A':Nat->Nat}{rb:Nat}{J:fB}{w':ak}
theorem aaT.keep(h:aaT A rb J w)(hA:∀k,k<w.heap.size->A' k=A k)(ht:aW (fun k=>A k=1) w w'):aaT A' rb J w':=by
 obtain⟨⟨r1,r2,r3,r4,h1,h2,h3⟩,h4⟩:=h
 have kp:∀k,k<w.heap.size->A k=0->w'.heap[k]?=w.heap[k]?:=fun k hk q=>ht.block k hk (by rw[q];decide)
 have ro:∀{v:Value} {n:Nat} {xs:List Value},w.ownsRow 0 9 1 v n xs->(∀k,v.ownBlock=some k->A k=0)->w'.ownsRow 0 9 1 v n xs:=fun {v n xs} hr hz=>dR hr (fun k hk=>kp k (bF hr k hk).2 (hz k hk))
 refine⟨⟨r1,r2,r3,r4,(ht.block rb (bN h1) h4).trans h1,⟨ro h2.ran (fun k hk=>h3 k (aK hk)),ro h2.cl (fun k hk=>h3 k (aP (aK hk))),ro h2.fa (fun k hk=>h3 k (aP (aP (aK hk)))),ro h2.bl (fun k hk=>h3 k (aP (aP (aP hk))))⟩,fun k hk=>?_⟩,by rw[hA rb (bN h1)];exact h4⟩
 have hlt:k<w.heap.size:=by
  rcases hk with q|q|q|q
  ·exact(bF h2.ran k q).2
  ·exact(bF h2.cl k q).2
  ·exact(bF h2.fa k q).2
  exact(bF h2.bl k q).2
 rw[hA k hlt];exact h3 k hk
variable {left':Nat}
theorem KW.aiY{r':bY}(h:KW w0 A a t left fb wb r v w)(hB:nZ A' a t left' fb r' w')(hA:∀k,k<w.heap.size->A' k=A k)(ht:aW (fun k=>A k=1\/A k=9) w w'):KW w0 A' a t left' fb wb r' v w' where
 base:=hB
 row:=(ht.block wb (bN h.row) (by rw[h.cw];decide)).trans h.row
 own i h2 h4:=dR (h.own i h2 h4) (fun k hk=>ht.block k (bF (h.own i h2 h4) k hk).2 (by rw[h.cl i h2 h4 k hk];omega))
 cw:=by rw[hA _ (bN h.row)];exact h.cw
 cl i h2 h4 k hk:=by rw[hA k (bF (h.own i h2 h4) k hk).2];exact h.cl i h2 h4 k hk
 bl:=h.bl.trans ht (fun i hi=>aP (by
  rcases bX i w0.heap.size with q|q
  ·rw[h.low i q] at hi;omega
  exact q))
 low k hk:=by rw[hA k (aB hk h.bl.size)];exact h.low k hk
 text:=h.text
 each:=h.each
variable {W:ak}{r1 r2 r3 r4:Value}
theorem Uq(h:KW w0 A a t left fb wb r v w)(ho:W.os=w.os/\W.output=w.output)(hs:w.heap.size<=W.heap.size)(hkp:∀k,k<w.heap.size->k≠rb->W.heap[k]?=w.heap[k]?)(hc:w.heap.size<=rb\/A rb=9)(hrow:W.heap[rb]?=some (.cells #[r1,r2,r3,r4] 36 (0,0)))(hrep:NJ w r1 r2 r3 r4 J)(hz:∀k,(r1.ownBlock=some k\/r2.ownBlock=some k\/r3.ownBlock=some k\/r4.ownBlock=some k)->A k=0):KW w0 A a t left fb wb r v W/\aaT A rb J W:=by
 have hn:∀k,k<w.heap.size->A k≠9->k≠rb:=fun k hk q e=>by
  rcases hc with c|c
  ·omega
  exact q (by rw[e];exact c)
 have ht:aW (fun k=>A k=1\/A k=9) w W:=⟨ho.1,ho.2,hs,fun k hk q=>hkp k hk (hn k hk (fun e=>q (aP e)))⟩
 have kp:∀k,k<w.heap.size->A k=0->W.heap[k]?=w.heap[k]?:=fun k hk q=>hkp k hk (hn k hk (by rw[q];decide))
 have ro:∀{v:Value} {n:Nat} {xs:List Value},w.ownsRow 0 9 1 v n xs->(∀k,v.ownBlock=some k->A k=0)->W.ownsRow 0 9 1 v n xs:=fun {v n xs} hr hz=>dR hr (fun k hk=>kp k (bF hr k hk).2 (hz k hk))
 refine⟨h.aiY (h.base.turn hs (fun _ _=>rfl) (fun k hk q=>hkp k hk (hn k hk aJ)) (fun k hk=>h.base.above k (aC hs hk)) (fun k hk=>aK (h.base.above k hk))) (fun _ _=>rfl) ht,⟨r1,r2,r3,r4,hrow,⟨ro hrep.ran (fun k hk=>hz k (aK hk)),ro hrep.cl (fun k hk=>hz k (aP (aK hk))),ro hrep.fa (fun k hk=>hz k (aP (aP (aK hk)))),ro hrep.bl (fun k hk=>hz k (aP (aP (aP hk))))⟩,hz⟩,?_⟩
 rcases hc with c|c
 ·rw[h.base.above rb c];decide
 rw[c];decide
theorem KW.mark(h:KW w0 A a t left fb wb r v w)(hb:Below w.heap.size w w')(hlt:w.heap.size<w'.heap.size):KW w0 (fun k=>if k=w.heap.size then 9 else A k) a t left fb wb r v w':=h.keep (h.base.mark hb hlt) (fun k hk=>aA aJ) (aW.of_below _ hb)
def aaU(A:Nat->Nat)(v:Value)(l:List bP)(w:ak):Prop:=∃B,w.ownsRow B 77 2 v l.length (uw l)/\∀k,v.ownBlock=some k->A k=9
theorem aaU.keep{v:Value}{l:List bP}(h:aaU A v l w)(hA:∀k,k<w.heap.size->A' k=A k)(ht:aW (fun k=>A k=1) w w'):aaU A' v l w':=by
 obtain⟨B,h1,h2⟩:=h;exact⟨B,dR h1 (fun k hk=>ht.block k (bF h1 k hk).2 (by rw[h2 k hk];decide)),fun k hk=>(hA k (bF h1 k hk).2).trans (h2 k hk)⟩
theorem aa4(h:nZ A a t left fb r w):(vT r r.seen).length<=1099511627776:=by
 obtain⟨c,d,hc,_,hI⟩:=h.files;have h1:=hI.Js;unfold vT;rw[jV];exact aC (pK _ _) aJ
theorem qD(h:KW w0 A a t (left+2000000) fb wb r v w)(htl:(v.l 2).length<=1048576):Calls Tryz.prog 19 #[.pointer (some ⟨fb,0,none⟩),.string v.x,v.v 2] w (JG A a t left fb (ow r v.x (v.l 2)) w):=
 Lc v.x (v.v 2) (v.l 2) h.base h.texts h.text htl (fun y hy=>aC (h.each y hy) bS)
def oM(W:ak)(rb:Nat)(v1 v2 v3 v4:Value):ak:=(((W.setCell ⟨rb,0,none⟩ v1).setCell ⟨rb,1,none⟩ v2).setCell ⟨rb,2,none⟩ v3).setCell ⟨rb,3,none⟩ v4
def ZR:Obj:=.cells #[.slice none 0 0,.slice none 0 0,.slice none 0 0,.slice none 0 0] 36
theorem SF(h:W.heap[rb]?=some (.cells #[.slice none 0 0,.slice none 0 0,.slice none 0 0,.slice none 0 0] 36 (0,0)))(v1 v2 v3 v4:Value):(oM W rb v1 v2 v3 v4).heap[rb]?=some (.cells #[v1,v2,v3,v4] 36 (0,0))/\(∀k,k≠rb->(oM W rb v1 v2 v3 v4).heap[k]?=W.heap[k]?)/\(oM W rb v1 v2 v3 v4).heap.size=W.heap.size:=by
 refine⟨?_,fun k hk=>?_,?_⟩
 ·have g0:=aR W rb 0 _ _ v1 h;have g1:=aR _ rb 1 _ _ v2 g0;have g2:=aR _ rb 2 _ _ v3 g1;exact aR _ rb 3 _ _ v4 g2
 ·unfold oM;rw[au _ _ _ _ (show k≠rb from hk),au _ _ _ _ (show k≠rb from hk),au _ _ _ _ (show k≠rb from hk),au _ _ _ _ (show k≠rb from hk)]
 unfold oM;rw[dI,dI,dI,dI]
def aaB(w0:ak)(A:Nat->Nat)(a:Nat->Addr)(t:Nat->ah)(left fb wb:Nat)(v:KV)(q:(Int×Int)×fB)(X:ak)(rb:Nat)(A4:Nat->Nat)(W:ak):Prop:=KW w0 A4 a t left fb wb q.2.r v W/\aaT A4 rb q.2 W/\(∀k,k<X.heap.size->A4 k=A k)/\aW (fun k=>A k=1) X W
variable {A4:Nat->Nat}{q:(Int×Int)×fB}{X w4:ak}
theorem Jj(h:KW w0 A a t left' fb wb r v X.drew)(hb:nX A a t left fb q.2.r X.drew w4 A4)(hrep:NJ w4 r1 r2 r3 r4 q.2)(hz:∀k,(r1.ownBlock=some k\/r2.ownBlock=some k\/r3.ownBlock=some k\/r4.ownBlock=some k)->X.drew.heap.size<=k/\A4 k=0):aaB w0 A a t left fb wb v q X w4.heap.size A4 (oM (w4.alloc ZR) w4.heap.size r1 r2 r3 r4):=by
 obtain⟨g1,g2,g3⟩:=SF (W:=w4.alloc ZR) (rb:=w4.heap.size) (bq _ _ _ rfl) r1 r2 r3 r4;have hs:(w4.alloc ZR).heap.size=w4.heap.size+1:=bO _ _
 have hkp:∀k,k<w4.heap.size->k≠w4.heap.size->(oM (w4.alloc ZR) w4.heap.size r1 r2 r3 r4).heap[k]?=w4.heap[k]?:=fun k hk hn=>(g2 k hn).trans (bC _ _ k hk)
 obtain⟨k1,k2⟩:=Uq (h.keep hb.1 hb.2.1 hb.2.2) (W:=oM (w4.alloc ZR) w4.heap.size r1 r2 r3 r4) ⟨rfl,rfl⟩ aJ hkp (aK (ai _)) g1 hrep (fun k hk=>(hz k hk).2);exact⟨k1,k2,hb.2.1,hb.2.2.os,hb.2.2.output,aC hb.2.2.size aJ,fun k hk q=>(hkp k (aB hk hb.2.2.size) (by have:=hb.2.2.size;have e:X.drew.heap.size=X.heap.size:=rfl;omega)).trans (hb.2.2.block k hk q)⟩
theorem Jk(h:KW w0 (fun k=>if k=X.heap.size then 9 else A k) a t left' fb wb r v (X.drew.alloc ZR))(hb:nX (fun k=>if k=X.heap.size then 9 else A k) a t left fb q.2.r (X.drew.alloc ZR) w4 A4)(hrep:NJ w4 r1 r2 r3 r4 q.2)(hz:∀k,(r1.ownBlock=some k\/r2.ownBlock=some k\/r3.ownBlock=some k\/r4.ownBlock=some k)->(X.drew.alloc ZR).heap.size<=k/\A4 k=0):w4.heap[X.heap.size]?=some (.cells #[.slice none 0 0,.slice none 0 0,.slice none 0 0,.slice none 0 0] 36 (0,0))/\aaB w0 A a t left fb wb v q X X.heap.size A4 (oM w4 X.heap.size r1 r2 r3 r4):=by
 have hs:(X.drew.alloc ZR).heap.size=X.heap.size+1:=bO _ _;have h9:A4 X.heap.size=9:=(hb.2.1 X.heap.size aJ).trans (aH rfl);have hr4:w4.heap[X.heap.size]?=some (.cells #[.slice none 0 0,.slice none 0 0,.slice none 0 0,.slice none 0 0] 36 (0,0)):=(hb.2.2.block X.heap.size aJ (by show¬(if X.heap.size=X.heap.size then 9 else A X.heap.size)=1;rw[aH rfl];decide)).trans (bq X.drew _ _ rfl);obtain⟨g1,g2,g3⟩:=SF hr4 r1 r2 r3 r4;obtain⟨k1,k2⟩:=Uq (h.keep hb.1 hb.2.1 hb.2.2) (W:=oM w4 X.heap.size r1 r2 r3 r4) ⟨rfl,rfl⟩ aJ (fun k _ hn=>g2 k hn) (aP h9) g1 hrep (fun k hk=>(hz k hk).2)
 have ho:∀k,k<X.heap.size->(if k=X.heap.size then 9 else A k)=A k:=fun k hk=>aA aJ
 refine⟨hr4,k1,k2,fun k hk=>(hb.2.1 k aJ).trans (ho k hk),hb.2.2.os,hb.2.2.output,by have:=hb.2.2.size;omega,fun k hk q=>(g2 k aJ).trans ((hb.2.2.block k aJ (by show¬(if k=X.heap.size then 9 else A k)=1;rw[ho k hk];exact q)).trans (bC X.drew _ k hk))⟩
theorem Wu(a:Nat->Addr)(t:Nat->ah)(ao:Option Addr)(n cap:Nat)(w:ak)(hs:qJ w ao n)(h:Ey a t w)(hal:∀w',Ey a t w'->Calls Tryz.prog 17 #[] w' fun e w2=>e=.returned (.bool true)/\aW (fun k=>w'.heap.size<=k) w' w2):
  Calls Tryz.prog 10 #[.slice ao n cap] w fun e w'=>e=.returned (.bool true)/\aW (fun k=>w.heap.size<=k) w w':=by
 have HSM:=bB (Wt ao n cap w hs);have HS:=bB hs;have HG:=bB h;have Rm:=bB hal;clear hs h hal
 go_enter Tryz.func10,Tryz.ntmps10
 go_wp2_with fail
 refine HSM.out.mono ?_;rintro e1 w1 ⟨sm,rfl,hsm,hb1⟩;have HT1:Hid (aW (fun k=>w.heap.size<=k) w w1):=aW.of_below _ hb1;have FV:=aV (HS.out.later hb1.size hb1.block);clear HSM hb1 HS
 cases sm with
 |false=>
  clear hsm
  go_wp2
  go_ret;exact⟨rfl,HT1.out⟩
 |true=>
  have hn:=hsm rfl;clear hsm;have HG1:=bB (HG.out.keep HT1.out);have HA1:=bB (Rm.out w1 HG1.out)
  go_wp2_with fail
  refine HA1.out.mono ?_;rintro e2 w2 ⟨rfl,ht2⟩;have HT2:Hid (aW (fun k=>w.heap.size<=k) w w2):=HT1.out.trans ht2 (fun k q=>aK (aC HT1.out.size q));have HS2:Hid (qJ w2 ao n):=FV.out.later ht2.size (fun k hk=>ht2.block k hk aJ);have HPL:=bB (Zr a t ao n cap w2 HS2.out hn (HG1.out.keep ht2));clear HA1 Rm ht2 FV HT1 HG1 HG HS2
  go_wp2_with fail
  refine HPL.out.mono ?_;rintro e3 w3 ⟨fb,wb,A,v,r,rfl,hk,hup,htl⟩;have HK:=bB hk;have HUP:=bB hup;have b0:=hk.kH.1;have Vg:Hid ((v.l 2).length<=1048576):=aC htl bS;clear htl;have HW2:=aV hk.bl.size;clear HPL hk hup;have FT:=aV (HK.out.below (ay w3.heap.size w3).drew)
  go_wp2_with fail
  have dP:=aV FT.out.kH;refine dJ (S:=fun w'=>PO fb wb v.x (v.v 2) w') dD ?_;change wpAnyH _ _ _ _ _ _ _ _ (World.drew _);have uP:=bB (qD FT.out Vg.out);obtain⟨Q,hQ⟩:∃Q,Q=ow r v.x (v.l 2):=⟨_,rfl⟩;rw[<-hQ] at uP;have HQ:=bB hQ;clear hQ;refine u3 0 (.pointer (some ⟨wb,0,none⟩)) rfl dP.out<|u3 1 (.pointer (some ⟨wb,0,none⟩)) rfl dP.out<|u3 2 (.pointer (some ⟨wb,0,none⟩)) rfl dP.out<|u3 3 (.pointer (some ⟨fb,0,none⟩)) rfl dP.out<|u3 4 (.pointer (some ⟨wb,0,none⟩)) rfl dP.out<|u3 5 (.pointer (some ⟨wb,0,none⟩)) rfl dP.out<|u3 6 (.pointer (some ⟨wb,1,none⟩)) rfl dP.out<|u3 7 (.string v.x) rfl dP.out<|u3 8 (.pointer (some ⟨wb,0,none⟩)) rfl dP.out<|u3 9 (.pointer (some ⟨wb,0,none⟩)) rfl dP.out<|u3 10 (.pointer (some ⟨wb,2,none⟩)) rfl dP.out<|u3 11 (v.v 2) rfl dP.out ?_
  refine pH 12 17 rfl rfl (fun K hK=>?KY) fun K hK=>?KZ
  case' KY=>
   go_simp;refine uP.out.mono ?_;rintro e4 w4 ⟨r1,r2,r3,r4,A4,rfl,hrep,hrz,hb4⟩;have tC:=bB (Jj FT.out hb4 hrep hrz);have Bl:=bB (FT.out.keep hb4.1 hb4.2.1 hb4.2.2);obtain⟨o1,p1,hv1,_,_⟩:=bE hrep.ran;obtain⟨o2,p2,hv2,_,_⟩:=bE hrep.cl;obtain⟨o3,p3,hv3,_,_⟩:=bE hrep.fa;obtain⟨o4,p4,hv4,_,_⟩:=bE hrep.bl;generalize Q.2.ran.length=n1 at hv1;generalize Q.2.cl.length=n2 at hv2;generalize Q.2.fa.length=n3 at hv3;generalize Q.2.bl.length=n4 at hv4;subst hv1 hv2 hv3 hv4;refine hK.out _ _ Bl.out.kH (fun _=>?_);clear hK K uP dP hrep hrz hb4;have dP:=bB Bl.out.kH;refine u3 13 (.tuple #[.agg #[.slice o1 n1 p1,.slice o2 n2 p2,.slice o3 n3 p3,.slice o4 n4 p4],.int .i64 Q.1.1,.int .i64 Q.1.2]) rfl dP.out<|u3 14 (.agg #[.slice o1 n1 p1,.slice o2 n2 p2,.slice o3 n3 p3,.slice o4 n4 p4]) rfl dP.out<|u3 15 (.int .i64 Q.1.1) rfl dP.out<|u3 16 (.int .i64 Q.1.2) rfl dP.out ?_;have HX:Hid (PO fb wb v.x (v.v 2) (w4.alloc ZR)):=(Bl.out.below ((ay _ _).alloc (ai _) _)).kH;have HR4:Hid ((w4.alloc ZR).heap[w4.heap.size]?=some (.cells #[.slice none 0 0,.slice none 0 0,.slice none 0 0,.slice none 0 0] 36 (0,0))):=bq _ _ _ rfl
   refine rH 17 rfl fun K hK=>?_
   go_simp;refine hK.out _ _ HX.out (fun _=>?_);clear hK K dP Bl;have dP:=HX;clear HX;change wpAnyH _ _ _ _ _ _ _ _ (w4.alloc ZR);generalize hW4:w4.alloc ZR=W4 at*;generalize Wh:w4.heap.size=rb at*;clear hW4 Wh
   have zc:∀i,W4.cell? ⟨rb,i,none⟩=(#[Value.slice none 0 0,.slice none 0 0,.slice none 0 0,.slice none 0 0]:Array Value)[i]?:=fun i=>aj _ _ _ _ _ _ HR4.out
   have z0:=zc 0;have z1:=zc 1;have z2:=zc 2;have z3:=zc 3;have f0:W4.frozen? ⟨rb,0,none⟩=false:=aD _ _ _ _ _ HR4.out;have f1:W4.frozen? ⟨rb,1,none⟩=false:=aD _ _ _ _ _ HR4.out;have f2:W4.frozen? ⟨rb,2,none⟩=false:=aD _ _ _ _ _ HR4.out;have f3:W4.frozen? ⟨rb,3,none⟩=false:=aD _ _ _ _ _ HR4.out;clear zc HR4
   refine rH 18 rfl fun K hK=>?_
   go_simp;change K _ (oM W4 rb (.slice o1 n1 p1) (.slice o2 n2 p2) (.slice o3 n3 p3) (.slice o4 n4 p4));clear z0 z1 z2 z3 f0 f1 f2 f3;generalize oM W4 rb (.slice o1 n1 p1) (.slice o2 n2 p2) (.slice o3 n3 p3) (.slice o4 n4 p4)=W5 at*;refine hK.out _ _ tC.out.1.kH (fun _=>?_);clear hK K dP;have dP:=bB tC.out.1.kH;refine u3 19 (.int .i64 Q.1.1) rfl dP.out ?_
   refine rH 20 rfl fun K hK=>?_
   go_simp;refine hK.out _ _ dP.out (fun _=>?_);clear hK K dP;refine eX dD ?_ _
  case' KZ=>
   have FU:=bB (FT.out.mark (w':=(w3).drew.alloc ZR) ((ay _ _).alloc (ai _) _) (by rw[bO];omega));go_simp;refine hK.out _ _ FU.out.kH (fun _=>?_);clear hK K dP uP;have dP:=bB FU.out.kH;have uP:=bB (qD FU.out Vg.out);rw[<-HQ.out] at uP
   try rw[HVT.out] at uP
   change wpAnyH _ _ _ _ _ _ _ _ ((w3).drew.alloc ZR)
   refine rH 12 rfl fun K hK=>?_
   go_simp;refine uP.out.mono ?_;rintro e4 W4 ⟨r1,r2,r3,r4,A4,rfl,hrep,hrz,hb4⟩;have hbb:=Jk FU.out hb4 hrep hrz;have tC:=bB hbb.2;have HR4:=bB hbb.1;have Bl:=bB (FU.out.keep hb4.1 hb4.2.1 hb4.2.2);obtain⟨o1,p1,hv1,_,_⟩:=bE hrep.ran;obtain⟨o2,p2,hv2,_,_⟩:=bE hrep.cl;obtain⟨o3,p3,hv3,_,_⟩:=bE hrep.fa;obtain⟨o4,p4,hv4,_,_⟩:=bE hrep.bl;generalize Q.2.ran.length=n1 at hv1;generalize Q.2.cl.length=n2 at hv2;generalize Q.2.fa.length=n3 at hv3;generalize Q.2.bl.length=n4 at hv4;subst hv1 hv2 hv3 hv4;refine hK.out _ _ Bl.out.kH (fun _=>?_);clear hK K uP dP hrep hrz hb4 hbb FU;have dP:=bB Bl.out.kH;clear Bl;refine u3 13 (.tuple #[.agg #[.slice o1 n1 p1,.slice o2 n2 p2,.slice o3 n3 p3,.slice o4 n4 p4],.int .i64 Q.1.1,.int .i64 Q.1.2]) rfl dP.out<|u3 14 (.agg #[.slice o1 n1 p1,.slice o2 n2 p2,.slice o3 n3 p3,.slice o4 n4 p4]) rfl dP.out<|u3 15 (.int .i64 Q.1.1) rfl dP.out<|u3 16 (.int .i64 Q.1.2) rfl dP.out ?_;generalize Wh:(w3).heap.size=rb at*;clear Wh
   have zc:∀i,W4.cell? ⟨rb,i,none⟩=(#[Value.slice none 0 0,.slice none 0 0,.slice none 0 0,.slice none 0 0]:Array Value)[i]?:=fun i=>aj _ _ _ _ _ _ HR4.out
   have z0:=zc 0;have z1:=zc 1;have z2:=zc 2;have z3:=zc 3;have f0:W4.frozen? ⟨rb,0,none⟩=false:=aD _ _ _ _ _ HR4.out;have f1:W4.frozen? ⟨rb,1,none⟩=false:=aD _ _ _ _ _ HR4.out;have f2:W4.frozen? ⟨rb,2,none⟩=false:=aD _ _ _ _ _ HR4.out;have f3:W4.frozen? ⟨rb,3,none⟩=false:=aD _ _ _ _ _ HR4.out;clear zc HR4
   refine rH 18 rfl fun K hK=>?_
   go_simp;change K _ (oM W4 rb (.slice o1 n1 p1) (.slice o2 n2 p2) (.slice o3 n3 p3) (.slice o4 n4 p4));clear z0 z1 z2 z3 f0 f1 f2 f3;generalize oM W4 rb (.slice o1 n1 p1) (.slice o2 n2 p2) (.slice o3 n3 p3) (.slice o4 n4 p4)=W5 at*;refine hK.out _ _ tC.out.1.kH (fun _=>?_);clear hK K dP;have dP:=bB tC.out.1.kH;refine u3 19 (.int .i64 Q.1.1) rfl dP.out ?_
   refine rH 20 rfl fun K hK=>?_
   go_simp;refine hK.out _ _ dP.out (fun _=>?_);clear hK K dP;refine eX dD ?_ _
  all_goals
   clear FT HK HW2 b0;have Rm:=bB (Tp tC.out.1)
   go_wp2_with fail
   refine Rm.out.mono ?_;rintro e6 w6 ⟨va,A6,rfl,hst⟩;have HV6:Hid (aaU A6 va (vT Q.2.r Q.2.r.seen) w6):=⟨_,hst.row,hst.col⟩;have HK6:=bB (tC.out.1.keep hst.base hst.hA hst.turns);have HR6:=bB (tC.out.2.1.keep hst.hA hst.turns);have b6:=HK6.out.kH.1;have CQ:=bB (xI HK6.out.base jO bS);clear Rm hst tC;generalize hL1:(dM Q.2.r jO).getD ⟨#[]⟩=L1 at*;generalize (if (dM Q.2.r jO).isSome=true then (0:Int) else 2)=E1 at*;have HL1:=bB hL1;clear hL1
   go_wp2_with fail
   refine CQ.out.mono ?_;rintro e7 w7 ⟨rfl,Jm⟩;have HV7:=bB (HV6.out.keep Jm.2.1 Jm.2.2);have HK7:=bB (HK6.out.keep Jm.1 Jm.2.1 Jm.2.2);have HR7:=bB (HR6.out.keep Jm.2.1 Jm.2.2);clear CQ Jm HV6 HK6 HR6 b6;generalize rb=rb1 at*;generalize Q=Q1 at*;have HQ1:=HQ;clear HQ;generalize A4=A4o at*;generalize W5=W5o at*;have FT:=aV (HK7.out.below (ay w7.heap.size w7).drew)
   go_wp2_with fail
   have dP:=aV FT.out.kH;refine dJ (S:=fun w'=>PO fb wb v.x (v.v 2) w') dD ?_;change wpAnyH _ _ _ _ _ _ _ _ (World.drew _);have uP:=bB (qD FT.out Vg.out);obtain⟨Q,hQ⟩:∃Q,Q=ow Q1.2.r v.x (v.l 2):=⟨_,rfl⟩;rw[<-hQ] at uP;have HQ:=bB hQ;clear hQ;refine u3 0 (.pointer (some ⟨wb,0,none⟩)) rfl dP.out<|u3 1 (.pointer (some ⟨wb,0,none⟩)) rfl dP.out<|u3 2 (.pointer (some ⟨wb,0,none⟩)) rfl dP.out<|u3 3 (.pointer (some ⟨fb,0,none⟩)) rfl dP.out<|u3 4 (.pointer (some ⟨wb,0,none⟩)) rfl dP.out<|u3 5 (.pointer (some ⟨wb,0,none⟩)) rfl dP.out<|u3 6 (.pointer (some ⟨wb,1,none⟩)) rfl dP.out<|u3 7 (.string v.x) rfl dP.out<|u3 8 (.pointer (some ⟨wb,0,none⟩)) rfl dP.out<|u3 9 (.pointer (some ⟨wb,0,none⟩)) rfl dP.out<|u3 10 (.pointer (some ⟨wb,2,none⟩)) rfl dP.out<|u3 11 (v.v 2) rfl dP.out ?_
   refine pH 12 17 rfl rfl (fun K hK=>?_) fun K hK=>?_
   case' _=>
    go_simp;refine uP.out.mono ?_;rintro e4 w4 ⟨r1,r2,r3,r4,A4,rfl,hrep,hrz,hb4⟩;have tC:=bB (Jj FT.out hb4 hrep hrz);have Bl:=bB (FT.out.keep hb4.1 hb4.2.1 hb4.2.2);obtain⟨o1,p1,hv1,_,_⟩:=bE hrep.ran;obtain⟨o2,p2,hv2,_,_⟩:=bE hrep.cl;obtain⟨o3,p3,hv3,_,_⟩:=bE hrep.fa;obtain⟨o4,p4,hv4,_,_⟩:=bE hrep.bl;generalize Q.2.ran.length=n1 at hv1;generalize Q.2.cl.length=n2 at hv2;generalize Q.2.fa.length=n3 at hv3;generalize Q.2.bl.length=n4 at hv4;subst hv1 hv2 hv3 hv4;refine hK.out _ _ Bl.out.kH (fun _=>?_);clear hK K uP dP hrep hrz hb4;have dP:=bB Bl.out.kH;refine u3 13 (.tuple #[.agg #[.slice o1 n1 p1,.slice o2 n2 p2,.slice o3 n3 p3,.slice o4 n4 p4],.int .i64 Q.1.1,.int .i64 Q.1.2]) rfl dP.out<|u3 14 (.agg #[.slice o1 n1 p1,.slice o2 n2 p2,.slice o3 n3 p3,.slice o4 n4 p4]) rfl dP.out<|u3 15 (.int .i64 Q.1.1) rfl dP.out<|u3 16 (.int .i64 Q.1.2) rfl dP.out ?_;have HX:Hid (PO fb wb v.x (v.v 2) (w4.alloc ZR)):=(Bl.out.below ((ay _ _).alloc (ai _) _)).kH;have HR4:Hid ((w4.alloc ZR).heap[w4.heap.size]?=some (.cells #[.slice none 0 0,.slice none 0 0,.slice none 0 0,.slice none 0 0] 36 (0,0))):=bq _ _ _ rfl
    refine rH 17 rfl fun K hK=>?_
    go_simp;refine hK.out _ _ HX.out (fun _=>?_);clear hK K dP Bl;have dP:=HX;clear HX;change wpAnyH _ _ _ _ _ _ _ _ (w4.alloc ZR);generalize hW4:w4.alloc ZR=W4 at*;generalize Wh:w4.heap.size=rb at*;clear hW4 Wh
    have zc:∀i,W4.cell? ⟨rb,i,none⟩=(#[Value.slice none 0 0,.slice none 0 0,.slice none 0 0,.slice none 0 0]:Array Value)[i]?:=fun i=>aj _ _ _ _ _ _ HR4.out
    have z0:=zc 0;have z1:=zc 1;have z2:=zc 2;have z3:=zc 3;have f0:W4.frozen? ⟨rb,0,none⟩=false:=aD _ _ _ _ _ HR4.out;have f1:W4.frozen? ⟨rb,1,none⟩=false:=aD _ _ _ _ _ HR4.out;have f2:W4.frozen? ⟨rb,2,none⟩=false:=aD _ _ _ _ _ HR4.out;have f3:W4.frozen? ⟨rb,3,none⟩=false:=aD _ _ _ _ _ HR4.out;clear zc HR4
    refine rH 18 rfl fun K hK=>?_
    go_simp;change K _ (oM W4 rb (.slice o1 n1 p1) (.slice o2 n2 p2) (.slice o3 n3 p3) (.slice o4 n4 p4));clear z0 z1 z2 z3 f0 f1 f2 f3;generalize oM W4 rb (.slice o1 n1 p1) (.slice o2 n2 p2) (.slice o3 n3 p3) (.slice o4 n4 p4)=W5 at*;refine hK.out _ _ tC.out.1.kH (fun _=>?_);clear hK K dP;have dP:=bB tC.out.1.kH;refine u3 19 (.int .i64 Q.1.1) rfl dP.out ?_
    refine rH 20 rfl fun K hK=>?_
    go_simp;refine hK.out _ _ dP.out (fun _=>?_);clear hK K dP;refine eX dD ?_ _
   rotate_left
   case' _=>
    have FU:=bB (FT.out.mark (w':=(w7).drew.alloc ZR) ((ay _ _).alloc (ai _) _) (by rw[bO];omega));go_simp;refine hK.out _ _ FU.out.kH (fun _=>?_);clear hK K dP uP;have dP:=bB FU.out.kH;have uP:=bB (qD FU.out Vg.out);rw[<-HQ.out] at uP
    try rw[HVT.out] at uP
    change wpAnyH _ _ _ _ _ _ _ _ ((w7).drew.alloc ZR)
    refine rH 12 rfl fun K hK=>?_
    go_simp;refine uP.out.mono ?_;rintro e4 W4 ⟨r1,r2,r3,r4,A4,rfl,hrep,hrz,hb4⟩;have hbb:=Jk FU.out hb4 hrep hrz;have tC:=bB hbb.2;have HR4:=bB hbb.1;have Bl:=bB (FU.out.keep hb4.1 hb4.2.1 hb4.2.2);obtain⟨o1,p1,hv1,_,_⟩:=bE hrep.ran;obtain⟨o2,p2,hv2,_,_⟩:=bE hrep.cl;obtain⟨o3,p3,hv3,_,_⟩:=bE hrep.fa;obtain⟨o4,p4,hv4,_,_⟩:=bE hrep.bl;generalize Q.2.ran.length=n1 at hv1;generalize Q.2.cl.length=n2 at hv2;generalize Q.2.fa.length=n3 at hv3;generalize Q.2.bl.length=n4 at hv4;subst hv1 hv2 hv3 hv4;refine hK.out _ _ Bl.out.kH (fun _=>?_);clear hK K uP dP hrep hrz hb4 hbb FU;have dP:=bB Bl.out.kH;clear Bl;refine u3 13 (.tuple #[.agg #[.slice o1 n1 p1,.slice o2 n2 p2,.slice o3 n3 p3,.slice o4 n4 p4],.int .i64 Q.1.1,.int .i64 Q.1.2]) rfl dP.out<|u3 14 (.agg #[.slice o1 n1 p1,.slice o2 n2 p2,.slice o3 n3 p3,.slice o4 n4 p4]) rfl dP.out<|u3 15 (.int .i64 Q.1.1) rfl dP.out<|u3 16 (.int .i64 Q.1.2) rfl dP.out ?_;generalize Wh:(w7).heap.size=rb at*;clear Wh
    have zc:∀i,W4.cell? ⟨rb,i,none⟩=(#[Value.slice none 0 0,.slice none 0 0,.slice none 0 0,.slice none 0 0]:Array Value)[i]?:=fun i=>aj _ _ _ _ _ _ HR4.out
    have z0:=zc 0;have z1:=zc 1;have z2:=zc 2;have z3:=zc 3;have f0:W4.frozen? ⟨rb,0,none⟩=false:=aD _ _ _ _ _ HR4.out;have f1:W4.frozen? ⟨rb,1,none⟩=false:=aD _ _ _ _ _ HR4.out;have f2:W4.frozen? ⟨rb,2,none⟩=false:=aD _ _ _ _ _ HR4.out;have f3:W4.frozen? ⟨rb,3,none⟩=false:=aD _ _ _ _ _ HR4.out;clear zc HR4
    refine rH 18 rfl fun K hK=>?_
    go_simp;change K _ (oM W4 rb (.slice o1 n1 p1) (.slice o2 n2 p2) (.slice o3 n3 p3) (.slice o4 n4 p4));clear z0 z1 z2 z3 f0 f1 f2 f3;generalize oM W4 rb (.slice o1 n1 p1) (.slice o2 n2 p2) (.slice o3 n3 p3) (.slice o4 n4 p4)=W5 at*;refine hK.out _ _ tC.out.1.kH (fun _=>?_);clear hK K dP;have dP:=bB tC.out.1.kH;refine u3 19 (.int .i64 Q.1.1) rfl dP.out ?_
    refine rH 20 rfl fun K hK=>?_
    go_simp;refine hK.out _ _ dP.out (fun _=>?_);clear hK K dP;refine eX dD ?_ _
   all_goals
    have HVX:=bB (HV7.out.keep tC.out.2.2.1 tC.out.2.2.2);have HRX:=bB (HR7.out.keep tC.out.2.2.1 tC.out.2.2.2);clear FT HK7 HV7 HR7;have Rm:=bB (Tp tC.out.1)
    go_wp2_with fail
    refine Rm.out.mono ?_;rintro e8 w8 ⟨vb,A8,rfl,hst⟩;have HW8:Hid (aaU A8 vb (vT Q.2.r Q.2.r.seen) w8):=⟨_,hst.row,hst.col⟩;have HV8:=bB (HVX.out.keep hst.hA hst.turns);have HK8:=bB (tC.out.1.keep hst.base hst.hA hst.turns);have HR8:=bB (HRX.out.keep hst.hA hst.turns);have HS8:=bB (tC.out.2.1.keep hst.hA hst.turns);have b8:=HK8.out.kH.1;have CQ:=bB (xI HK8.out.base jO bS);clear Rm hst tC HVX HRX;generalize hL2:(dM Q.2.r jO).getD ⟨#[]⟩=L2 at*;generalize (if (dM Q.2.r jO).isSome=true then (0:Int) else 2)=E2 at*;have HL2:=bB hL2;clear hL2
    go_wp2_with fail
    refine CQ.out.mono ?_;rintro e9 w9 ⟨rfl,Hw⟩;have HW9:=bB (HW8.out.keep Hw.2.1 Hw.2.2);have HV9:=bB (HV8.out.keep Hw.2.1 Hw.2.2);have HK9:=bB (HK8.out.keep Hw.1 Hw.2.1 Hw.2.2);have HR9:=bB (HR8.out.keep Hw.2.1 Hw.2.2);have HS9:=bB (HS8.out.keep Hw.2.1 Hw.2.2);have Pw:Hid (aW (fun k=>w.heap.size<=k) w w9):=HT2.out.trans HK9.out.bl (fun k q=>aK (aC HT2.out.size q));clear CQ Hw HW8 HV8 HK8 HR8 HS8 b8;have HPU:=bB (Pf HUP.out v.x (v.l 2));rw[<-HQ1.out,<-HQ.out] at HPU
    by_cases h3:Q1.1.1=3
    ·have h3':=h3;clear h3;generalize Q1.1.1=z1 at*;subst h3'
     go_wp2
     go_ret;exact⟨rfl,Pw.out⟩
    have HSA:Hid (Q.2.r=Q1.2.r/\((Q1.1.1≠0/\Q=Q1)\/(Q1.1.1=0/\Q.1.1=0/\Q.2.ran=[]/\Q.2.cl.length=Q1.2.ran.length+Q1.2.cl.length/\Q.2.fa=Q1.2.fa/\Q.2.bl=Q1.2.bl))):=by
     rcases HPU.out with e|⟨e,er⟩|⟨e,K,h1,h2,h3,h4,h5,h6⟩
     ·exact absurd e h3
     ·have hq:Q=Q1:=by rw[HQ.out,er];exact HQ1.out.symm
      exact⟨by rw[hq],aK ⟨e,hq⟩⟩
     rw[h1];exact⟨h2,aP ⟨e,rfl,h3,h4,h5,h6⟩⟩
    have CP:Hid (L2=L1):=by show _=_;rw[<-HL2.out,<-HL1.out,HSA.out.1]
    have HAN:=bB (aa4 HK9.out.base);rw[HSA.out.1] at HW9 HAN;obtain rfl:L2=L1:=CP.out;have HSM:=bB (Zt (vT Q1.2.r Q1.2.r.seen) va vb w9 (by obtain⟨_,h,_⟩:=HV9.out;exact Ur h) (by obtain⟨_,h,_⟩:=HW9.out;exact Ur h) HAN.out);clear HPU CP HL1 HL2 HW9 HV9 HAN;have qs:(L2.toList==L2.toList)=true:=IQ _
    go_wp2_with fail
    refine HSM.out.mono ?_;rintro e10 yu ⟨rfl,m10,aiQ⟩
    have aaE:Hid (Below w9.heap.size w9 yu):=by rw[aiQ];exact⟨rfl,rfl,rfl,ai _,fun _ _=>rfl⟩
    have akO:Hid (aW (fun k=>w.heap.size<=k) w yu):=Pw.out.trans (aW.of_below (fun _=>False) aaE.out) (fun _ q=>q.elim);clear aiQ HSM
    by_cases h0:Q1.1.1=0
    ·obtain⟨g1,g2,g3,g4,g5⟩:Q.1.1=0/\Q.2.ran=[]/\Q.2.cl.length=Q1.2.ran.length+Q1.2.cl.length/\Q.2.fa=Q1.2.fa/\Q.2.bl=Q1.2.bl:=by
      rcases HSA.out.2 with e|e
      ·exact absurd h0 e.1
      exact e.2
     have hfw:=aen r v.x (v.l 2);rw[<-HQ1.out] at hfw;unfold FB at hfw;obtain⟨⟨s1,s2,s3,s4,hs,hsr,_⟩,_⟩:=HR9.out;obtain⟨⟨u1,u2,u3,u4,hu,hur,_⟩,_⟩:=HS9.out;obtain⟨p1,q1,hv1,_,_⟩:=bE hsr.ran;obtain⟨p2,q2,hv2,_,_⟩:=bE hsr.cl;obtain⟨p3,q3,hv3,_,_⟩:=bE hur.ran;obtain⟨p4,q4,hv4,_,_⟩:=bE hur.cl;rw[g2] at hv3;rw[g3] at hv4
     have HFA:Hid (∀w',Below w9.heap.size w9 w'->bL w' s3 Q1.2.fa/\bL w' u3 Q1.2.fa/\bL w' s4 Q1.2.bl/\bL w' u4 Q1.2.bl):=fun w' hb=>by
      have t3:=mZ hur.fa;have t4:=mZ hur.bl;rw[g4] at t3;rw[g5] at t4;exact⟨(mZ hsr.fa).iy hb,t3.iy hb,(mZ hsr.bl).iy hb,t4.iy hb⟩
     have Vn:Hid (Q1.2.fa.length<=64/\Q1.2.bl.length<=64):=⟨aJ,aJ⟩
     have alJ:Q1.2.ran.length+Q1.2.cl.length<=64:=aJ
     generalize Q1.2.ran.length=n1 at*;generalize Q1.2.cl.length=n2 at*
     have HCE:Hid (∀w',Below w9.heap.size w9 w'->(∀i,w'.cell? ⟨rb1,i,none⟩=(#[s1,s2,s3,s4]:Array Value)[i]?)/\∀i,w'.cell? ⟨rb,i,none⟩=(#[u1,u2,u3,u4]:Array Value)[i]?):=fun w' hb=>⟨fun i=>aj _ _ _ _ _ _ ((hb.block rb1 (bN hs)).trans hs),fun i=>aj _ _ _ _ _ _ ((hb.block rb (bN hu)).trans hu)⟩
     subst hv1 hv2 hv3 hv4;clear hs hu hsr hur g2 g3 g4 g5 hfw HR9 HS9 HSA HK9 HQ HQ1;generalize Q1.1.1=z1 at*;generalize Q.1.1=z2 at*;subst h0 g1;have HF1:=HFA.out yu aaE.out;have HM1:=bB (BR Q1.2.fa s3 u3 yu HF1.1 HF1.2.1 (aC Vn.out.1 bS));have c2:=(HCE.out yu aaE.out).1 2;have d2:=(HCE.out yu aaE.out).2 2;simp only[bZ,aY,dY,dh,Nat.reduceAdd,Nat.reduceLT,Zf,Pz,JB,JC] at c2 d2;clear HF1
     go_wp2_with fail
     refine HM1.out.mono ?_;rintro e11 Jc ⟨rfl,m11,aiR⟩
     have Yl:Hid (Below w9.heap.size w9 Jc):=by rw[aiR];exact aaE.out.trans ⟨rfl,rfl,rfl,ai _,fun _ _=>rfl⟩
     clear aiR HM1 c2 d2;have HF1:=HFA.out Jc Yl.out;have HM2:=bB (BR Q1.2.bl s4 u4 Jc HF1.2.2.1 HF1.2.2.2 (aC Vn.out.2 bS));have c3:=(HCE.out Jc Yl.out).1 3;have d3:=(HCE.out Jc Yl.out).2 3;simp only[bZ,aY,dY,dh,Nat.reduceAdd,Nat.reduceLT,Zf,Pz,JB,JC] at c3 d3;clear HF1
     go_wp2_with fail
     refine HM2.out.mono ?_;rintro e12 w12 ⟨rfl,m12,aiS⟩
     have aaF:Hid (Below w9.heap.size w9 w12):=by rw[aiS];exact Yl.out.trans ⟨rfl,rfl,rfl,ai _,fun _ _=>rfl⟩
     have akP:Hid (aW (fun k=>w.heap.size<=k) w w12):=Pw.out.trans (aW.of_below (fun _=>False) aaF.out) (fun _ q=>q.elim);clear aiS HM2 c3 d3;have c0:=(HCE.out w12 aaF.out).1 0;have c1:=(HCE.out w12 aaF.out).1 1;have d0:=(HCE.out w12 aaF.out).2 0;have d1:=(HCE.out w12 aaF.out).2 1;simp only[bZ,aY,dY,dh,Nat.reduceAdd,Nat.reduceLT,Zf,Pz,JB,JC] at c0 c1 d0 d1
     have hn3:(n1:Int)+(n2:Int)<=64:=aJ
     clear HFA HCE Vn alJ
     go_wp2
     go_ret;exact⟨rfl,akP.out⟩
    obtain rfl:Q=Q1:=by
     rcases HSA.out.2 with e|e
     ·exact e.2
     exact absurd e.1 h0
    clear HSA HQ HQ1 HR9 HS9 HK9;generalize Q.1.1=z1 at*;generalize Q.1.2=z2 at*
    go_wp2
    go_ret;exact⟨rfl,akO.out⟩
end
def FZ:ah:=⟨#[114,117,108,101,32,114,10,32,99,111,109,109,97,110,100,32,61,32,99,97,116,32,36,105,110,10,98,117,105,108,100,32,98,58,32,114,32,97,10]⟩
def DK:bY:=(eP ⟨[],[],9999,[],0,false,false⟩ ⟨#[97]⟩ ⟨#[100,97,116,97]⟩).2
theorem YC:Up DK:=⟨dD,dD⟩
theorem Vx:(decide ((ow DK FZ []).1.1=0)&&decide ((ow DK FZ []).2.ran.length=1)&&decide ((ow DK FZ []).2.cl.length=0)&&decide (dM (ow DK FZ []).2.r ⟨#[98]⟩=some ⟨#[100,97,116,97]⟩))=true:=dD
section
open Go.RowKit Go.Maps
theorem Wq(a:Nat->Addr)(t:Nat->ah)(w:ak)(h:Ey a t w):
  Calls Tryz.prog 17 #[] w fun e w'=>e=.returned (.bool true)/\aW (fun k=>w.heap.size<=k) w w':=by
 have HG:=bB h;have Ev:=bB (TV (fun _=>0) 1 0 w h.gl.size 9999);clear h
 go_enter Tryz.func17,Tryz.ntmps17
 go_wp2_with fail
 refine Ev.out.mono ?_;rintro e1 w1 ⟨fb,A',rfl,hp,hA,_,hb1⟩;obtain⟨A2,hk⟩:=abO (left:=9999999+1) HG.out hp (rY.fresh 0 9999) hA hb1 aJ FZ bS;rw[show min (max (9999:Int) 0) 65536=9999 by decide] at hk;have Pv:=aV hk;have b0:=Pv.out.kH.1;have HST:=bB (KL (left:=9999999) Pv.out rfl 0 0 ⟨#[97]⟩ ⟨#[100,97,116,97]⟩ bS bS bS);clear hk hp hA hb1 Ev
 go_wp2_with fail
 refine HST.out.mono ?_;rintro e2 w2 ⟨rfl,ob,A3,v,hm⟩;have HK:=aV hm.kw;have HVX:=aV hm.x;have HVT:=aV hm.vt;have HVL:=aV hm.ts
 have Vg:Hid ((v.l 2).length<=1048576):=by show _<=_;rw[HVL.out];exact aS _
 clear hm HST Pv b0;generalize w1.heap.size=wb at*;have FT:Hid (KW w A3 a t (7999999+2000000) fb wb DK v w2.drew):=HK.out.below (ay w2.heap.size w2).drew
 go_wp2_with fail
 have dP:=aV FT.out.kH;refine dJ (S:=fun w'=>PO fb wb v.x (v.v 2) w') dD ?_;change wpAnyH _ _ _ _ _ _ _ _ (World.drew _);have uP:=bB (qD FT.out Vg.out);obtain⟨Q,hQ⟩:∃Q,Q=ow DK v.x (v.l 2):=⟨_,rfl⟩;rw[<-hQ] at uP;have HQ:=bB hQ;clear hQ;rw[HVT.out] at uP;refine u3 0 (.pointer (some ⟨wb,0,none⟩)) rfl dP.out<|u3 1 (.pointer (some ⟨wb,0,none⟩)) rfl dP.out<|u3 2 (.pointer (some ⟨wb,0,none⟩)) rfl dP.out<|u3 3 (.pointer (some ⟨fb,0,none⟩)) rfl dP.out<|u3 4 (.pointer (some ⟨wb,0,none⟩)) rfl dP.out<|u3 5 (.pointer (some ⟨wb,0,none⟩)) rfl dP.out<|u3 6 (.pointer (some ⟨wb,1,none⟩)) rfl dP.out<|u3 7 (.string v.x) rfl dP.out ?_
 refine pH 8 13 rfl rfl (fun K hK=>?_) fun K hK=>?_
 case' _=>
  go_simp;refine uP.out.mono ?_;rintro e4 w4 ⟨r1,r2,r3,r4,A4,rfl,hrep,hrz,hb4⟩;have tC:=bB (Jj FT.out hb4 hrep hrz);have Bl:=bB (FT.out.keep hb4.1 hb4.2.1 hb4.2.2);obtain⟨o1,p1,hv1,_,_⟩:=bE hrep.ran;obtain⟨o2,p2,hv2,_,_⟩:=bE hrep.cl;obtain⟨o3,p3,hv3,_,_⟩:=bE hrep.fa;obtain⟨o4,p4,hv4,_,_⟩:=bE hrep.bl;generalize Q.2.ran.length=n1 at hv1;generalize Q.2.cl.length=n2 at hv2;generalize Q.2.fa.length=n3 at hv3;generalize Q.2.bl.length=n4 at hv4;subst hv1 hv2 hv3 hv4;refine hK.out _ _ Bl.out.kH (fun _=>?_);clear hK K uP dP hrep hrz hb4;have dP:=bB Bl.out.kH;refine u3 9 (.tuple #[.agg #[.slice o1 n1 p1,.slice o2 n2 p2,.slice o3 n3 p3,.slice o4 n4 p4],.int .i64 Q.1.1,.int .i64 Q.1.2]) rfl dP.out<|u3 10 (.agg #[.slice o1 n1 p1,.slice o2 n2 p2,.slice o3 n3 p3,.slice o4 n4 p4]) rfl dP.out<|u3 11 (.int .i64 Q.1.1) rfl dP.out<|u3 12 (.int .i64 Q.1.2) rfl dP.out ?_;have HX:Hid (PO fb wb v.x (v.v 2) (w4.alloc ZR)):=(Bl.out.below ((ay _ _).alloc (ai _) _)).kH;have HR4:Hid ((w4.alloc ZR).heap[w4.heap.size]?=some (.cells #[.slice none 0 0,.slice none 0 0,.slice none 0 0,.slice none 0 0] 36 (0,0))):=bq _ _ _ rfl
  refine rH 13 rfl fun K hK=>?_
  go_simp;refine hK.out _ _ HX.out (fun _=>?_);clear hK K dP Bl;have dP:=HX;clear HX;change wpAnyH _ _ _ _ _ _ _ _ (w4.alloc ZR);generalize hW4:w4.alloc ZR=W4 at*;generalize Wh:w4.heap.size=rb at*;clear hW4 Wh
  have zc:∀i,W4.cell? ⟨rb,i,none⟩=(#[Value.slice none 0 0,.slice none 0 0,.slice none 0 0,.slice none 0 0]:Array Value)[i]?:=fun i=>aj _ _ _ _ _ _ HR4.out
  have z0:=zc 0;have z1:=zc 1;have z2:=zc 2;have z3:=zc 3;have f0:W4.frozen? ⟨rb,0,none⟩=false:=aD _ _ _ _ _ HR4.out;have f1:W4.frozen? ⟨rb,1,none⟩=false:=aD _ _ _ _ _ HR4.out;have f2:W4.frozen? ⟨rb,2,none⟩=false:=aD _ _ _ _ _ HR4.out;have f3:W4.frozen? ⟨rb,3,none⟩=false:=aD _ _ _ _ _ HR4.out;clear zc HR4
  refine rH 14 rfl fun K hK=>?_
  go_simp;change K _ (oM W4 rb (.slice o1 n1 p1) (.slice o2 n2 p2) (.slice o3 n3 p3) (.slice o4 n4 p4));clear z0 z1 z2 z3 f0 f1 f2 f3;generalize oM W4 rb (.slice o1 n1 p1) (.slice o2 n2 p2) (.slice o3 n3 p3) (.slice o4 n4 p4)=W5 at*;refine hK.out _ _ tC.out.1.kH (fun _=>?_);clear hK K dP;have dP:=bB tC.out.1.kH;refine u3 15 (.int .i64 Q.1.1) rfl dP.out ?_
  refine rH 16 rfl fun K hK=>?_
  go_simp;refine hK.out _ _ dP.out (fun _=>?_);clear hK K dP;refine eX dD ?_ _
 rotate_left
 case' _=>
  have FU:=bB (FT.out.mark (w':=(w2).drew.alloc ZR) ((ay _ _).alloc (ai _) _) (by rw[bO];omega));go_simp;refine hK.out _ _ FU.out.kH (fun _=>?_);clear hK K dP uP;have dP:=bB FU.out.kH;have uP:=bB (qD FU.out Vg.out);rw[<-HQ.out] at uP
  try rw[HVT.out] at uP
  change wpAnyH _ _ _ _ _ _ _ _ ((w2).drew.alloc ZR)
  refine rH 8 rfl fun K hK=>?_
  go_simp;refine uP.out.mono ?_;rintro e4 W4 ⟨r1,r2,r3,r4,A4,rfl,hrep,hrz,hb4⟩;have hbb:=Jk FU.out hb4 hrep hrz;have tC:=bB hbb.2;have HR4:=bB hbb.1;have Bl:=bB (FU.out.keep hb4.1 hb4.2.1 hb4.2.2);obtain⟨o1,p1,hv1,_,_⟩:=bE hrep.ran;obtain⟨o2,p2,hv2,_,_⟩:=bE hrep.cl;obtain⟨o3,p3,hv3,_,_⟩:=bE hrep.fa;obtain⟨o4,p4,hv4,_,_⟩:=bE hrep.bl;generalize Q.2.ran.length=n1 at hv1;generalize Q.2.cl.length=n2 at hv2;generalize Q.2.fa.length=n3 at hv3;generalize Q.2.bl.length=n4 at hv4;subst hv1 hv2 hv3 hv4;refine hK.out _ _ Bl.out.kH (fun _=>?_);clear hK K uP dP hrep hrz hb4 hbb FU;have dP:=bB Bl.out.kH;clear Bl;refine u3 9 (.tuple #[.agg #[.slice o1 n1 p1,.slice o2 n2 p2,.slice o3 n3 p3,.slice o4 n4 p4],.int .i64 Q.1.1,.int .i64 Q.1.2]) rfl dP.out<|u3 10 (.agg #[.slice o1 n1 p1,.slice o2 n2 p2,.slice o3 n3 p3,.slice o4 n4 p4]) rfl dP.out<|u3 11 (.int .i64 Q.1.1) rfl dP.out<|u3 12 (.int .i64 Q.1.2) rfl dP.out ?_;generalize Wh:(w2).heap.size=rb at*;clear Wh
  have zc:∀i,W4.cell? ⟨rb,i,none⟩=(#[Value.slice none 0 0,.slice none 0 0,.slice none 0 0,.slice none 0 0]:Array Value)[i]?:=fun i=>aj _ _ _ _ _ _ HR4.out
  have z0:=zc 0;have z1:=zc 1;have z2:=zc 2;have z3:=zc 3;have f0:W4.frozen? ⟨rb,0,none⟩=false:=aD _ _ _ _ _ HR4.out;have f1:W4.frozen? ⟨rb,1,none⟩=false:=aD _ _ _ _ _ HR4.out;have f2:W4.frozen? ⟨rb,2,none⟩=false:=aD _ _ _ _ _ HR4.out;have f3:W4.frozen? ⟨rb,3,none⟩=false:=aD _ _ _ _ _ HR4.out;clear zc HR4
  refine rH 14 rfl fun K hK=>?_
  go_simp;change K _ (oM W4 rb (.slice o1 n1 p1) (.slice o2 n2 p2) (.slice o3 n3 p3) (.slice o4 n4 p4));clear z0 z1 z2 z3 f0 f1 f2 f3;generalize oM W4 rb (.slice o1 n1 p1) (.slice o2 n2 p2) (.slice o3 n3 p3) (.slice o4 n4 p4)=W5 at*;refine hK.out _ _ tC.out.1.kH (fun _=>?_);clear hK K dP;have dP:=bB tC.out.1.kH;refine u3 15 (.int .i64 Q.1.1) rfl dP.out ?_
  refine rH 16 rfl fun K hK=>?_
  go_simp;refine hK.out _ _ dP.out (fun _=>?_);clear hK K dP;refine eX dD ?_ _
 all_goals
  clear FT HK;have HB1:=tC;generalize rb=rb1 at*;generalize Q=Q1 at*;have HQ1:=HQ;clear HQ tC;generalize A4=A5 at*;generalize W5=w5 at*;have FT:=aV (HB1.out.1.below (ay w5.heap.size w5).drew)
  go_wp2_with fail
  have dP:=aV FT.out.kH;refine dJ (S:=fun w'=>PO fb wb v.x (v.v 2) w') dD ?_;change wpAnyH _ _ _ _ _ _ _ _ (World.drew _);have uP:=bB (qD FT.out Vg.out);obtain⟨Q,hQ⟩:∃Q,Q=ow Q1.2.r v.x (v.l 2):=⟨_,rfl⟩;rw[<-hQ] at uP;have HQ:=bB hQ;clear hQ;rw[HVT.out] at uP;refine u3 0 (.pointer (some ⟨wb,0,none⟩)) rfl dP.out<|u3 1 (.pointer (some ⟨wb,0,none⟩)) rfl dP.out<|u3 2 (.pointer (some ⟨wb,0,none⟩)) rfl dP.out<|u3 3 (.pointer (some ⟨fb,0,none⟩)) rfl dP.out<|u3 4 (.pointer (some ⟨wb,0,none⟩)) rfl dP.out<|u3 5 (.pointer (some ⟨wb,0,none⟩)) rfl dP.out<|u3 6 (.pointer (some ⟨wb,1,none⟩)) rfl dP.out<|u3 7 (.string v.x) rfl dP.out ?_
  refine pH 8 13 rfl rfl (fun K hK=>?_) fun K hK=>?_
  case' _=>
   go_simp;refine uP.out.mono ?_;rintro e4 w4 ⟨r1,r2,r3,r4,A4,rfl,hrep,hrz,hb4⟩;have tC:=bB (Jj FT.out hb4 hrep hrz);have Bl:=bB (FT.out.keep hb4.1 hb4.2.1 hb4.2.2);obtain⟨o1,p1,hv1,_,_⟩:=bE hrep.ran;obtain⟨o2,p2,hv2,_,_⟩:=bE hrep.cl;obtain⟨o3,p3,hv3,_,_⟩:=bE hrep.fa;obtain⟨o4,p4,hv4,_,_⟩:=bE hrep.bl;generalize Q.2.ran.length=n1 at hv1;generalize Q.2.cl.length=n2 at hv2;generalize Q.2.fa.length=n3 at hv3;generalize Q.2.bl.length=n4 at hv4;subst hv1 hv2 hv3 hv4;refine hK.out _ _ Bl.out.kH (fun _=>?_);clear hK K uP dP hrep hrz hb4;have dP:=bB Bl.out.kH;refine u3 9 (.tuple #[.agg #[.slice o1 n1 p1,.slice o2 n2 p2,.slice o3 n3 p3,.slice o4 n4 p4],.int .i64 Q.1.1,.int .i64 Q.1.2]) rfl dP.out<|u3 10 (.agg #[.slice o1 n1 p1,.slice o2 n2 p2,.slice o3 n3 p3,.slice o4 n4 p4]) rfl dP.out<|u3 11 (.int .i64 Q.1.1) rfl dP.out<|u3 12 (.int .i64 Q.1.2) rfl dP.out ?_;have HX:Hid (PO fb wb v.x (v.v 2) (w4.alloc ZR)):=(Bl.out.below ((ay _ _).alloc (ai _) _)).kH;have HR4:Hid ((w4.alloc ZR).heap[w4.heap.size]?=some (.cells #[.slice none 0 0,.slice none 0 0,.slice none 0 0,.slice none 0 0] 36 (0,0))):=bq _ _ _ rfl
   refine rH 13 rfl fun K hK=>?_
   go_simp;refine hK.out _ _ HX.out (fun _=>?_);clear hK K dP Bl;have dP:=HX;clear HX;change wpAnyH _ _ _ _ _ _ _ _ (w4.alloc ZR);generalize hW4:w4.alloc ZR=W4 at*;generalize Wh:w4.heap.size=rb at*;clear hW4 Wh
   have zc:∀i,W4.cell? ⟨rb,i,none⟩=(#[Value.slice none 0 0,.slice none 0 0,.slice none 0 0,.slice none 0 0]:Array Value)[i]?:=fun i=>aj _ _ _ _ _ _ HR4.out
   have z0:=zc 0;have z1:=zc 1;have z2:=zc 2;have z3:=zc 3;have f0:W4.frozen? ⟨rb,0,none⟩=false:=aD _ _ _ _ _ HR4.out;have f1:W4.frozen? ⟨rb,1,none⟩=false:=aD _ _ _ _ _ HR4.out;have f2:W4.frozen? ⟨rb,2,none⟩=false:=aD _ _ _ _ _ HR4.out;have f3:W4.frozen? ⟨rb,3,none⟩=false:=aD _ _ _ _ _ HR4.out;clear zc HR4
   refine rH 14 rfl fun K hK=>?_
   go_simp;change K _ (oM W4 rb (.slice o1 n1 p1) (.slice o2 n2 p2) (.slice o3 n3 p3) (.slice o4 n4 p4));clear z0 z1 z2 z3 f0 f1 f2 f3;generalize oM W4 rb (.slice o1 n1 p1) (.slice o2 n2 p2) (.slice o3 n3 p3) (.slice o4 n4 p4)=W5 at*;refine hK.out _ _ tC.out.1.kH (fun _=>?_);clear hK K dP;have dP:=bB tC.out.1.kH;refine u3 15 (.int .i64 Q.1.1) rfl dP.out ?_
   refine rH 16 rfl fun K hK=>?_
   go_simp;refine hK.out _ _ dP.out (fun _=>?_);clear hK K dP;refine eX dD ?_ _
  rotate_left
  case' _=>
   have FU:=bB (FT.out.mark (w':=(w5).drew.alloc ZR) ((ay _ _).alloc (ai _) _) (by rw[bO];omega));go_simp;refine hK.out _ _ FU.out.kH (fun _=>?_);clear hK K dP uP;have dP:=bB FU.out.kH;have uP:=bB (qD FU.out Vg.out);rw[<-HQ.out] at uP
   try rw[HVT.out] at uP
   change wpAnyH _ _ _ _ _ _ _ _ ((w5).drew.alloc ZR)
   refine rH 8 rfl fun K hK=>?_
   go_simp;refine uP.out.mono ?_;rintro e4 W4 ⟨r1,r2,r3,r4,A4,rfl,hrep,hrz,hb4⟩;have hbb:=Jk FU.out hb4 hrep hrz;have tC:=bB hbb.2;have HR4:=bB hbb.1;have Bl:=bB (FU.out.keep hb4.1 hb4.2.1 hb4.2.2);obtain⟨o1,p1,hv1,_,_⟩:=bE hrep.ran;obtain⟨o2,p2,hv2,_,_⟩:=bE hrep.cl;obtain⟨o3,p3,hv3,_,_⟩:=bE hrep.fa;obtain⟨o4,p4,hv4,_,_⟩:=bE hrep.bl;generalize Q.2.ran.length=n1 at hv1;generalize Q.2.cl.length=n2 at hv2;generalize Q.2.fa.length=n3 at hv3;generalize Q.2.bl.length=n4 at hv4;subst hv1 hv2 hv3 hv4;refine hK.out _ _ Bl.out.kH (fun _=>?_);clear hK K uP dP hrep hrz hb4 hbb FU;have dP:=bB Bl.out.kH;clear Bl;refine u3 9 (.tuple #[.agg #[.slice o1 n1 p1,.slice o2 n2 p2,.slice o3 n3 p3,.slice o4 n4 p4],.int .i64 Q.1.1,.int .i64 Q.1.2]) rfl dP.out<|u3 10 (.agg #[.slice o1 n1 p1,.slice o2 n2 p2,.slice o3 n3 p3,.slice o4 n4 p4]) rfl dP.out<|u3 11 (.int .i64 Q.1.1) rfl dP.out<|u3 12 (.int .i64 Q.1.2) rfl dP.out ?_;generalize Wh:(w5).heap.size=rb at*;clear Wh
   have zc:∀i,W4.cell? ⟨rb,i,none⟩=(#[Value.slice none 0 0,.slice none 0 0,.slice none 0 0,.slice none 0 0]:Array Value)[i]?:=fun i=>aj _ _ _ _ _ _ HR4.out
   have z0:=zc 0;have z1:=zc 1;have z2:=zc 2;have z3:=zc 3;have f0:W4.frozen? ⟨rb,0,none⟩=false:=aD _ _ _ _ _ HR4.out;have f1:W4.frozen? ⟨rb,1,none⟩=false:=aD _ _ _ _ _ HR4.out;have f2:W4.frozen? ⟨rb,2,none⟩=false:=aD _ _ _ _ _ HR4.out;have f3:W4.frozen? ⟨rb,3,none⟩=false:=aD _ _ _ _ _ HR4.out;clear zc HR4
   refine rH 14 rfl fun K hK=>?_
   go_simp;change K _ (oM W4 rb (.slice o1 n1 p1) (.slice o2 n2 p2) (.slice o3 n3 p3) (.slice o4 n4 p4));clear z0 z1 z2 z3 f0 f1 f2 f3;generalize oM W4 rb (.slice o1 n1 p1) (.slice o2 n2 p2) (.slice o3 n3 p3) (.slice o4 n4 p4)=W5 at*;refine hK.out _ _ tC.out.1.kH (fun _=>?_);clear hK K dP;have dP:=bB tC.out.1.kH;refine u3 15 (.int .i64 Q.1.1) rfl dP.out ?_
   refine rH 16 rfl fun K hK=>?_
   go_simp;refine hK.out _ _ dP.out (fun _=>?_);clear hK K dP;refine eX dD ?_ _
  all_goals
   have HR:=bB (HB1.out.2.1.keep tC.out.2.2.1 tC.out.2.2.2);have b5:=tC.out.1.kH.1;have CQ:=bB (xI tC.out.1.base ⟨#[98]⟩ bS);have hc:=Vx;simp only[rf,lg] at hc;have hQ1:=HQ1.out;rw[HVX.out,HVL.out] at hQ1;have hQ:=HQ.out;rw[HVX.out,HVL.out] at hQ;rw[<-hQ1] at hc;have Wj:=Pf YC FZ [];rw[<-hQ1,<-hQ] at Wj;obtain⟨⟨⟨c1,c2⟩,c3⟩,c4⟩:=hc
   have HX:Hid (Q.1.1=0/\Q.2.ran.length=0/\Q.2.cl.length=1/\Q.2.r=Q1.2.r):=by
    rcases Wj with e|⟨e,_⟩|⟨_,K,h1,h2,h3,h4,_⟩
    ·rw[c1] at e;cases e
    ·exact absurd c1 e
    rw[h1];exact⟨rfl,by rw[h3];rfl,by rw[h4,c2,c3],h2⟩
   rw[HX.out.2.2.2,c4] at CQ;clear Wj hQ1 hQ HQ HQ1 FT HB1
   have qd:((⟨#[100,97,116,97]⟩:ah).toList==[100,97,116,97])=true:=by rw[eG];rfl
   have ahH:Hid (Calls Tryz.prog 21 #[.pointer (some ⟨fb,0,none⟩),.string ⟨#[98]⟩] W5 fun e w'=>e=.returned (.tuple #[.string ⟨#[100,97,116,97]⟩,.int .i64 0])/\nX A4 a t 5999999 fb Q1.2.r W5 w' A4):=by
    exact CQ.out
   clear CQ
   go_wp2_with fail
   refine ahH.out.mono ?_;rintro e9 w9 ⟨rfl,Hw⟩;obtain⟨⟨s1,s2,s3,s4,hs,hsr,_⟩,_⟩:=(HR.out.keep Hw.2.1 Hw.2.2);obtain⟨⟨u1,u2,u3,u4,hu,hur,_⟩,_⟩:=(tC.out.2.1.keep Hw.2.1 Hw.2.2)
   have Pw:Hid (aW (fun k=>w.heap.size<=k) w w9):=tC.out.1.bl.trans Hw.2.2 (fun k q=>aP (by
    rcases bX k w.heap.size with z|z
    ·rw[tC.out.1.low k z] at q;cases q
    exact z))
   obtain⟨p1,q1,hv1,_,_⟩:=bE hsr.ran;obtain⟨p3,q3,hv3,_,_⟩:=bE hur.ran;obtain⟨p4,q4,hv4,_,_⟩:=bE hur.cl;rw[c2] at hv1;rw[HX.out.2.1] at hv3;rw[HX.out.2.2.1] at hv4;subst hv1 hv3 hv4;have d0:w9.cell? ⟨rb1,0,none⟩=some (.slice p1 1 q1):=aj _ _ _ _ _ _ hs;have d1:w9.cell? ⟨rb,0,none⟩=some (.slice p3 0 q3):=aj _ _ _ _ _ _ hu;have d2:w9.cell? ⟨rb,1,none⟩=some (.slice p4 1 q4):=aj _ _ _ _ _ _ hu;have z2:=HX.out.1;clear Hw hs hsr hu hur ahH HR tC HX c2 c3 c4 b5;generalize Q.1.1=y2 at*;generalize Q1.1.1=y1 at*;subst c1 z2
   go_wp2
   go_ret;exact⟨rfl,Pw.out⟩
theorem aac(a:Nat->Addr)(t:Nat->ah)(ao:Option Addr)(n cap:Nat)(w:ak)(hs:qJ w ao n)(h:Ey a t w):
  Calls Tryz.prog 10 #[.slice ao n cap] w fun e w'=>e=.returned (.bool true)/\aW (fun k=>w.heap.size<=k) w w':=Wu a t ao n cap w hs h (fun w' h'=>Wq a t w' h')
end
end Go.Proofs.YthhbpebihgjpjaaGreatDoor
