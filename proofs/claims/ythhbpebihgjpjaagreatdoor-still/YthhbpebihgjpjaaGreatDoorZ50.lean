import Derived.Test.YthhbpebihgjpjaaGreatDoorZ49
namespace Go.Proofs.YthhbpebihgjpjaaGreatDoor
set_option maxRecDepth 1000000
set_option maxHeartbeats 20000000
set_option linter.all false
section
open Go.RowKit Go.Maps
def PD(fb wb:Nat)(x:ah)(vt:Value)(w:aj):Prop:=w.cell? ⟨wb,0,none⟩=some (.pointer (some ⟨fb,0,none⟩))/\w.cell? ⟨wb,1,none⟩=some (.string x)/\w.cell? ⟨wb,2,none⟩=some vt
variable {w0 w:aj}{A:Nat->Nat}{a:Nat->Addr}{t:Nat->ah}{left fb wb:Nat}{r:bS}{v:KV}
theorem KW.kE(h:KW w0 A a t left fb wb r v w):PD fb wb v.x (v.v 2) w:=by
 have c:∀i,w.cell? ⟨wb,i,none⟩=(#[.pointer (some ⟨fb,0,none⟩),.string v.x,v.v 2,v.v 3,v.v 4,.bool v.vo]:Array Value)[i]?:=fun i=>bZ h.row
 exact⟨c 0,c 1,c 2⟩
structure aaR(A:Nat->Nat)(rb:Nat)(J:eZ)(w:aj):Prop where
 row:∃r1 r2 r3 r4,w.heap[rb]?=some (.cells #[r1,r2,r3,r4] 36 (0,0))/\NG w r1 r2 r3 r4 J/\∀k,(r1.ownBlock=some k\/r2.ownBlock=some k\/r3.ownBlock=some k\/r4.ownBlock=some k)->A k=0
 col:A rb≠1
variable {A':Nat->Nat}{rb:Nat}{J:eZ}{w':aj}
theorem aaR.keep(h:aaR A rb J w)(hA:∀k,k<w.heap.size->A' k=A k)(ht:aQ (fun k=>A k=1) w w'):aaR A' rb J w':=by
 obtain⟨⟨r1,r2,r3,r4,h1,h2,h3⟩,h4⟩:=h
 have kp:∀k,k<w.heap.size->A k=0->w'.heap[k]?=w.heap[k]?:=fun k hk q=>ht.block k hk (by rw[q];decide)
 have ro:∀{v:Value} {n:Nat} {xs:List Value},w.ownsRow 0 9 1 v n xs->(∀k,v.ownBlock=some k->A k=0)->w'.ownsRow 0 9 1 v n xs:=fun {v n xs} hr hz=>dL hr (fun k hk=>kp k (bA hr k hk).2 (hz k hk))
 refine⟨⟨r1,r2,r3,r4,(ht.block rb (bI h1) h4).trans h1,⟨ro h2.ran (fun k hk=>h3 k (aG hk)),ro h2.cl (fun k hk=>h3 k (aL (aG hk))),ro h2.fa (fun k hk=>h3 k (aL (aL (aG hk)))),ro h2.bl (fun k hk=>h3 k (aL (aL (aL hk))))⟩,fun k hk=>?_⟩,by rw[hA rb (bI h1)];exact h4⟩
 have hlt:k<w.heap.size:=by
  rcases hk with q|q|q|q
  ·exact(bA h2.ran k q).2
  ·exact(bA h2.cl k q).2
  ·exact(bA h2.fa k q).2
  exact(bA h2.bl k q).2
 rw[hA k hlt];exact h3 k hk
variable {left':Nat}
theorem KW.aiV{r':bS}(h:KW w0 A a t left fb wb r v w)(hB:nY A' a t left' fb r' w')(hA:∀k,k<w.heap.size->A' k=A k)(ht:aQ (fun k=>A k=1\/A k=9) w w'):KW w0 A' a t left' fb wb r' v w' where
 base:=hB
 row:=(ht.block wb (bI h.row) (by rw[h.cw];decide)).trans h.row
 own i h2 h4:=dL (h.own i h2 h4) (fun k hk=>ht.block k (bA (h.own i h2 h4) k hk).2 (by rw[h.cl i h2 h4 k hk];omega))
 cw:=by rw[hA _ (bI h.row)];exact h.cw
 cl i h2 h4 k hk:=by rw[hA k (bA (h.own i h2 h4) k hk).2];exact h.cl i h2 h4 k hk
 bl:=h.bl.trans ht (fun i hi=>aL (by
  rcases bR i w0.heap.size with q|q
  ·rw[h.low i q] at hi;omega
  exact q))
 low k hk:=by rw[hA k (ay hk h.bl.size)];exact h.low k hk
 text:=h.text
 each:=h.each
variable {W:aj}{r1 r2 r3 r4:Value}
theorem Um(h:KW w0 A a t left fb wb r v w)(ho:W.os=w.os/\W.output=w.output)(hs:w.heap.size<=W.heap.size)(hkp:∀k,k<w.heap.size->k≠rb->W.heap[k]?=w.heap[k]?)(hc:w.heap.size<=rb\/A rb=9)(hrow:W.heap[rb]?=some (.cells #[r1,r2,r3,r4] 36 (0,0)))(hrep:NG w r1 r2 r3 r4 J)(hz:∀k,(r1.ownBlock=some k\/r2.ownBlock=some k\/r3.ownBlock=some k\/r4.ownBlock=some k)->A k=0):KW w0 A a t left fb wb r v W/\aaR A rb J W:=by
 have hn:∀k,k<w.heap.size->A k≠9->k≠rb:=fun k hk q e=>by
  rcases hc with c|c
  ·omega
  exact q (by rw[e];exact c)
 have ht:aQ (fun k=>A k=1\/A k=9) w W:=⟨ho.1,ho.2,hs,fun k hk q=>hkp k hk (hn k hk (fun e=>q (aL e)))⟩
 have kp:∀k,k<w.heap.size->A k=0->W.heap[k]?=w.heap[k]?:=fun k hk q=>hkp k hk (hn k hk (by rw[q];decide))
 have ro:∀{v:Value} {n:Nat} {xs:List Value},w.ownsRow 0 9 1 v n xs->(∀k,v.ownBlock=some k->A k=0)->W.ownsRow 0 9 1 v n xs:=fun {v n xs} hr hz=>dL hr (fun k hk=>kp k (bA hr k hk).2 (hz k hk))
 refine⟨h.aiV (h.base.turn hs (fun _ _=>rfl) (fun k hk q=>hkp k hk (hn k hk (by omega))) (fun k hk=>h.base.above k (aA hs hk)) (fun k hk=>aG (h.base.above k hk))) (fun _ _=>rfl) ht,⟨r1,r2,r3,r4,hrow,⟨ro hrep.ran (fun k hk=>hz k (aG hk)),ro hrep.cl (fun k hk=>hz k (aL (aG hk))),ro hrep.fa (fun k hk=>hz k (aL (aL (aG hk)))),ro hrep.bl (fun k hk=>hz k (aL (aL (aL hk))))⟩,hz⟩,?_⟩
 rcases hc with c|c
 ·rw[h.base.above rb c];decide
 rw[c];decide
theorem KW.mark(h:KW w0 A a t left fb wb r v w)(hb:Below w.heap.size w w')(hlt:w.heap.size<w'.heap.size):KW w0 (fun k=>if k=w.heap.size then 9 else A k) a t left fb wb r v w':=h.keep (h.base.mark hb hlt) (fun k hk=>ax (by omega)) (aQ.of_below _ hb)
def aaS(A:Nat->Nat)(v:Value)(l:List bL)(w:aj):Prop:=∃B,w.ownsRow B 77 2 v l.length (um l)/\∀k,v.ownBlock=some k->A k=9
theorem aaS.keep{v:Value}{l:List bL}(h:aaS A v l w)(hA:∀k,k<w.heap.size->A' k=A k)(ht:aQ (fun k=>A k=1) w w'):aaS A' v l w':=by
 obtain⟨B,h1,h2⟩:=h;exact⟨B,dL h1 (fun k hk=>ht.block k (bA h1 k hk).2 (by rw[h2 k hk];decide)),fun k hk=>(hA k (bA h1 k hk).2).trans (h2 k hk)⟩
theorem aa2(h:nY A a t left fb r w):(vP r r.seen).length<=1099511627776:=by
 obtain⟨c,d,hc,_,hI⟩:=h.files;have h1:=hI.Jq;unfold vP;rw[jR];exact aA (pG _ _) (by omega)
theorem qA(h:KW w0 A a t (left+2000000) fb wb r v w)(htl:(v.l 2).length<=1048576):Calls Tryz.prog 19 #[.pointer (some ⟨fb,0,none⟩),.string v.x,v.v 2] w (JD A a t left fb (ou r v.x (v.l 2)) w):=
 Lc v.x (v.v 2) (v.l 2) h.base h.texts h.text htl (fun y hy=>aA (h.each y hy) (by decide))
def oL(W:aj)(rb:Nat)(v1 v2 v3 v4:Value):aj:=(((W.setCell ⟨rb,0,none⟩ v1).setCell ⟨rb,1,none⟩ v2).setCell ⟨rb,2,none⟩ v3).setCell ⟨rb,3,none⟩ v4
def ZR:Obj:=.cells #[.slice none 0 0,.slice none 0 0,.slice none 0 0,.slice none 0 0] 36
theorem SB(h:W.heap[rb]?=some (.cells #[.slice none 0 0,.slice none 0 0,.slice none 0 0,.slice none 0 0] 36 (0,0)))(v1 v2 v3 v4:Value):(oL W rb v1 v2 v3 v4).heap[rb]?=some (.cells #[v1,v2,v3,v4] 36 (0,0))/\(∀k,k≠rb->(oL W rb v1 v2 v3 v4).heap[k]?=W.heap[k]?)/\(oL W rb v1 v2 v3 v4).heap.size=W.heap.size:=by
 refine⟨?_,fun k hk=>?_,?_⟩
 ·have g0:=eO W rb 0 _ _ v1 h;have g1:=eO _ rb 1 _ _ v2 g0;have g2:=eO _ rb 2 _ _ v3 g1;exact eO _ rb 3 _ _ v4 g2
 ·unfold oL;rw[iP (show k≠rb from hk),iP (show k≠rb from hk),iP (show k≠rb from hk),iP (show k≠rb from hk)]
 unfold oL;rw[dA,dA,dA,dA]
def aaA(w0:aj)(A:Nat->Nat)(a:Nat->Addr)(t:Nat->ah)(left fb wb:Nat)(v:KV)(q:(Int×Int)×eZ)(X:aj)(rb:Nat)(A4:Nat->Nat)(W:aj):Prop:=KW w0 A4 a t left fb wb q.2.r v W/\aaR A4 rb q.2 W/\(∀k,k<X.heap.size->A4 k=A k)/\aQ (fun k=>A k=1) X W
variable {A4:Nat->Nat}{q:(Int×Int)×eZ}{X w4:aj}
theorem Jh(h:KW w0 A a t left' fb wb r v X.drew)(hb:nW A a t left fb q.2.r X.drew w4 A4)(hrep:NG w4 r1 r2 r3 r4 q.2)(hz:∀k,(r1.ownBlock=some k\/r2.ownBlock=some k\/r3.ownBlock=some k\/r4.ownBlock=some k)->X.drew.heap.size<=k/\A4 k=0):aaA w0 A a t left fb wb v q X w4.heap.size A4 (oL (w4.alloc ZR) w4.heap.size r1 r2 r3 r4):=by
 obtain⟨g1,g2,g3⟩:=SB (W:=w4.alloc ZR) (rb:=w4.heap.size) (aW _ _ _ rfl) r1 r2 r3 r4;have hs:(w4.alloc ZR).heap.size=w4.heap.size+1:=bJ _ _
 have hkp:∀k,k<w4.heap.size->k≠w4.heap.size->(oL (w4.alloc ZR) w4.heap.size r1 r2 r3 r4).heap[k]?=w4.heap[k]?:=fun k hk hn=>(g2 k hn).trans (aZ _ _ k hk)
 obtain⟨k1,k2⟩:=Um (h.keep hb.1 hb.2.1 hb.2.2) (W:=oL (w4.alloc ZR) w4.heap.size r1 r2 r3 r4) ⟨rfl,rfl⟩ (by omega) hkp (aG (ai _)) g1 hrep (fun k hk=>(hz k hk).2);exact⟨k1,k2,hb.2.1,hb.2.2.os,hb.2.2.output,aA hb.2.2.size (by omega),fun k hk q=>(hkp k (ay hk hb.2.2.size) (by have:=hb.2.2.size;have e:X.drew.heap.size=X.heap.size:=rfl;omega)).trans (hb.2.2.block k hk q)⟩
theorem Ji(h:KW w0 (fun k=>if k=X.heap.size then 9 else A k) a t left' fb wb r v (X.drew.alloc ZR))(hb:nW (fun k=>if k=X.heap.size then 9 else A k) a t left fb q.2.r (X.drew.alloc ZR) w4 A4)(hrep:NG w4 r1 r2 r3 r4 q.2)(hz:∀k,(r1.ownBlock=some k\/r2.ownBlock=some k\/r3.ownBlock=some k\/r4.ownBlock=some k)->(X.drew.alloc ZR).heap.size<=k/\A4 k=0):w4.heap[X.heap.size]?=some (.cells #[.slice none 0 0,.slice none 0 0,.slice none 0 0,.slice none 0 0] 36 (0,0))/\aaA w0 A a t left fb wb v q X X.heap.size A4 (oL w4 X.heap.size r1 r2 r3 r4):=by
 have hs:(X.drew.alloc ZR).heap.size=X.heap.size+1:=bJ _ _;have h9:A4 X.heap.size=9:=(hb.2.1 X.heap.size (by omega)).trans (aD rfl);have hr4:w4.heap[X.heap.size]?=some (.cells #[.slice none 0 0,.slice none 0 0,.slice none 0 0,.slice none 0 0] 36 (0,0)):=(hb.2.2.block X.heap.size (by omega) (by show¬(if X.heap.size=X.heap.size then 9 else A X.heap.size)=1;rw[aD rfl];decide)).trans (aW X.drew _ _ rfl);obtain⟨g1,g2,g3⟩:=SB hr4 r1 r2 r3 r4;obtain⟨k1,k2⟩:=Um (h.keep hb.1 hb.2.1 hb.2.2) (W:=oL w4 X.heap.size r1 r2 r3 r4) ⟨rfl,rfl⟩ (by omega) (fun k _ hn=>g2 k hn) (aL h9) g1 hrep (fun k hk=>(hz k hk).2)
 have ho:∀k,k<X.heap.size->(if k=X.heap.size then 9 else A k)=A k:=fun k hk=>ax (by omega)
 refine⟨hr4,k1,k2,fun k hk=>(hb.2.1 k (by omega)).trans (ho k hk),hb.2.2.os,hb.2.2.output,by have:=hb.2.2.size;omega,fun k hk q=>(g2 k (by omega)).trans ((hb.2.2.block k (by omega) (by show¬(if k=X.heap.size then 9 else A k)=1;rw[ho k hk];exact q)).trans (aZ X.drew _ k hk))⟩
theorem Wt(a:Nat->Addr)(t:Nat->ah)(ao:Option Addr)(n cap:Nat)(w:aj)(hs:qF w ao n)(h:Ew a t w)(hal:∀w',Ew a t w'->Calls Tryz.prog 17 #[] w' fun e w2=>e=.returned (.bool true)/\aQ (fun k=>w'.heap.size<=k) w' w2):
  Calls Tryz.prog 10 #[.slice ao n cap] w fun e w'=>e=.returned (.bool true)/\aQ (fun k=>w.heap.size<=k) w w':=by
 have HSM:=aY (Ws ao n cap w hs);have HS:=aY hs;have HG:=aY h;have Rk:=aY hal;clear hs h hal
 go_enter Tryz.func10,Tryz.ntmps10
 go_wp2_with fail
 refine HSM.out.mono ?_;rintro e1 w1 ⟨sm,rfl,hsm,hb1⟩;have HT1:Hid (aQ (fun k=>w.heap.size<=k) w w1):=aQ.of_below _ hb1;have FT:=aP (HS.out.later hb1.size hb1.block);clear HSM hb1 HS
 cases sm with
 |false=>
  clear hsm
  go_wp2
  go_ret;exact⟨rfl,HT1.out⟩
 |true=>
  have hn:=hsm rfl;clear hsm;have HG1:=aY (HG.out.keep HT1.out);have HA1:=aY (Rk.out w1 HG1.out)
  go_wp2_with fail
  refine HA1.out.mono ?_;rintro e2 w2 ⟨rfl,ht2⟩;have HT2:Hid (aQ (fun k=>w.heap.size<=k) w w2):=HT1.out.trans ht2 (fun k q=>aG (aA HT1.out.size q));have HS2:Hid (qF w2 ao n):=FT.out.later ht2.size (fun k hk=>ht2.block k hk (by omega));have HPL:=aY (Zq a t ao n cap w2 HS2.out hn (HG1.out.keep ht2));clear HA1 Rk ht2 FT HT1 HG1 HG HS2
  go_wp2_with fail
  refine HPL.out.mono ?_;rintro e3 w3 ⟨fb,wb,A,v,r,rfl,hk,hup,htl⟩;have HK:=aY hk;have HUP:=aY hup;have b0:=hk.kE.1;have Ve:Hid ((v.l 2).length<=1048576):=aA htl (by decide);clear htl;have HW2:=aP hk.bl.size;clear HPL hk hup;have FQ:=aP (HK.out.below (au w3.heap.size w3).drew)
  go_wp2_with fail
  have dJ:=aP FQ.out.kE;refine dB (S:=fun w'=>PD fb wb v.x (v.v 2) w') (by kernel_rfl) ?_;change wpAnyH _ _ _ _ _ _ _ _ (World.drew _);have uM:=aY (qA FQ.out Ve.out);obtain⟨Q,hQ⟩:∃Q,Q=ou r v.x (v.l 2):=⟨_,rfl⟩;rw[<-hQ] at uM;have HQ:=aY hQ;clear hQ;refine u3 0 (.pointer (some ⟨wb,0,none⟩)) rfl dJ.out ?_<|u3 1 (.pointer (some ⟨wb,0,none⟩)) rfl dJ.out ?_<|u3 2 (.pointer (some ⟨wb,0,none⟩)) rfl dJ.out ?_<|u3 3 (.pointer (some ⟨fb,0,none⟩)) rfl dJ.out ?_<|u3 4 (.pointer (some ⟨wb,0,none⟩)) rfl dJ.out ?_<|u3 5 (.pointer (some ⟨wb,0,none⟩)) rfl dJ.out ?_<|u3 6 (.pointer (some ⟨wb,1,none⟩)) rfl dJ.out ?_<|u3 7 (.string v.x) rfl dJ.out ?_<|u3 8 (.pointer (some ⟨wb,0,none⟩)) rfl dJ.out ?_<|u3 9 (.pointer (some ⟨wb,0,none⟩)) rfl dJ.out ?_<|u3 10 (.pointer (some ⟨wb,2,none⟩)) rfl dJ.out ?_<|u3 11 (v.v 2) rfl dJ.out ?_ ?_;(iterate 12 ·exact⟨by kernel_rfl,kI,by rintro w' ⟨q1,q2,q3⟩;go_simp⟩)
  refine pH 12 17 rfl rfl (by kernel_rfl) (fun K hK=>?KY) fun K hK=>?KZ
  case' KY=>
   go_simp;refine uM.out.mono ?_;rintro e4 w4 ⟨r1,r2,r3,r4,A4,rfl,hrep,hrz,hb4⟩;have sZ:=aY (Jh FQ.out hb4 hrep hrz);have Bh:=aY (FQ.out.keep hb4.1 hb4.2.1 hb4.2.2);obtain⟨o1,p1,hv1,_,_⟩:=bq hrep.ran;obtain⟨o2,p2,hv2,_,_⟩:=bq hrep.cl;obtain⟨o3,p3,hv3,_,_⟩:=bq hrep.fa;obtain⟨o4,p4,hv4,_,_⟩:=bq hrep.bl;generalize Q.2.ran.length=n1 at hv1;generalize Q.2.cl.length=n2 at hv2;generalize Q.2.fa.length=n3 at hv3;generalize Q.2.bl.length=n4 at hv4;subst hv1 hv2 hv3 hv4;refine hK.out _ _ Bh.out.kE (fun _=>?_);clear hK K uM dJ hrep hrz hb4;have dJ:=aY Bh.out.kE;refine u3 13 (.tuple #[.agg #[.slice o1 n1 p1,.slice o2 n2 p2,.slice o3 n3 p3,.slice o4 n4 p4],.int .i64 Q.1.1,.int .i64 Q.1.2]) rfl dJ.out ?_<|u3 14 (.agg #[.slice o1 n1 p1,.slice o2 n2 p2,.slice o3 n3 p3,.slice o4 n4 p4]) rfl dJ.out ?_<|u3 15 (.int .i64 Q.1.1) rfl dJ.out ?_<|u3 16 (.int .i64 Q.1.2) rfl dJ.out ?_ ?_;(iterate 4 ·exact⟨by kernel_rfl,kI,by rintro w' ⟨q1,q2,q3⟩;go_simp⟩);have HX:Hid (PD fb wb v.x (v.v 2) (w4.alloc ZR)):=(Bh.out.below ((au _ _).alloc (ai _) _)).kE;have HR4:Hid ((w4.alloc ZR).heap[w4.heap.size]?=some (.cells #[.slice none 0 0,.slice none 0 0,.slice none 0 0,.slice none 0 0] 36 (0,0))):=aW _ _ _ rfl
   refine rH 17 rfl (by kernel_rfl) fun K hK=>?_
   go_simp;refine hK.out _ _ HX.out (fun _=>?_);clear hK K dJ Bh;have dJ:=HX;clear HX;change wpAnyH _ _ _ _ _ _ _ _ (w4.alloc ZR);generalize hW4:w4.alloc ZR=W4 at*;generalize Wd:w4.heap.size=rb at*;clear hW4 Wd
   have zc:∀i,W4.cell? ⟨rb,i,none⟩=(#[Value.slice none 0 0,.slice none 0 0,.slice none 0 0,.slice none 0 0]:Array Value)[i]?:=fun i=>bZ HR4.out
   have z0:=zc 0;have z1:=zc 1;have z2:=zc 2;have z3:=zc 3;have f0:W4.frozen? ⟨rb,0,none⟩=false:=iG HR4.out;have f1:W4.frozen? ⟨rb,1,none⟩=false:=iG HR4.out;have f2:W4.frozen? ⟨rb,2,none⟩=false:=iG HR4.out;have f3:W4.frozen? ⟨rb,3,none⟩=false:=iG HR4.out;clear zc HR4
   refine rH 18 rfl (by kernel_rfl) fun K hK=>?_
   go_simp;change K _ (oL W4 rb (.slice o1 n1 p1) (.slice o2 n2 p2) (.slice o3 n3 p3) (.slice o4 n4 p4));clear z0 z1 z2 z3 f0 f1 f2 f3;generalize oL W4 rb (.slice o1 n1 p1) (.slice o2 n2 p2) (.slice o3 n3 p3) (.slice o4 n4 p4)=W5 at*;refine hK.out _ _ sZ.out.1.kE (fun _=>?_);clear hK K dJ;have dJ:=aY sZ.out.1.kE;refine u3 19 (.int .i64 Q.1.1) rfl dJ.out ⟨by kernel_rfl,kI,by rintro w' ⟨q1,q2,q3⟩;go_simp⟩ ?_
   refine rH 20 rfl (by kernel_rfl) fun K hK=>?_
   go_simp;refine hK.out _ _ dJ.out (fun _=>?_);clear hK K dJ;refine eF (by kernel_rfl) ?_ _
  case' KZ=>
   have FR:=aY (FQ.out.mark (w':=(w3).drew.alloc ZR) ((au _ _).alloc (ai _) _) (by rw[bJ];omega));go_simp;refine hK.out _ _ FR.out.kE (fun _=>?_);clear hK K dJ uM;have dJ:=aY FR.out.kE;have uM:=aY (qA FR.out Ve.out);rw[<-HQ.out] at uM
   try rw[HVT.out] at uM
   change wpAnyH _ _ _ _ _ _ _ _ ((w3).drew.alloc ZR)
   refine rH 12 rfl (by kernel_rfl) fun K hK=>?_
   go_simp;refine uM.out.mono ?_;rintro e4 W4 ⟨r1,r2,r3,r4,A4,rfl,hrep,hrz,hb4⟩;have hbb:=Ji FR.out hb4 hrep hrz;have sZ:=aY hbb.2;have HR4:=aY hbb.1;have Bh:=aY (FR.out.keep hb4.1 hb4.2.1 hb4.2.2);obtain⟨o1,p1,hv1,_,_⟩:=bq hrep.ran;obtain⟨o2,p2,hv2,_,_⟩:=bq hrep.cl;obtain⟨o3,p3,hv3,_,_⟩:=bq hrep.fa;obtain⟨o4,p4,hv4,_,_⟩:=bq hrep.bl;generalize Q.2.ran.length=n1 at hv1;generalize Q.2.cl.length=n2 at hv2;generalize Q.2.fa.length=n3 at hv3;generalize Q.2.bl.length=n4 at hv4;subst hv1 hv2 hv3 hv4;refine hK.out _ _ Bh.out.kE (fun _=>?_);clear hK K uM dJ hrep hrz hb4 hbb FR;have dJ:=aY Bh.out.kE;clear Bh;refine u3 13 (.tuple #[.agg #[.slice o1 n1 p1,.slice o2 n2 p2,.slice o3 n3 p3,.slice o4 n4 p4],.int .i64 Q.1.1,.int .i64 Q.1.2]) rfl dJ.out ?_<|u3 14 (.agg #[.slice o1 n1 p1,.slice o2 n2 p2,.slice o3 n3 p3,.slice o4 n4 p4]) rfl dJ.out ?_<|u3 15 (.int .i64 Q.1.1) rfl dJ.out ?_<|u3 16 (.int .i64 Q.1.2) rfl dJ.out ?_ ?_;(iterate 4 ·exact⟨by kernel_rfl,kI,by rintro w' ⟨q1,q2,q3⟩;go_simp⟩);generalize Wd:(w3).heap.size=rb at*;clear Wd
   have zc:∀i,W4.cell? ⟨rb,i,none⟩=(#[Value.slice none 0 0,.slice none 0 0,.slice none 0 0,.slice none 0 0]:Array Value)[i]?:=fun i=>bZ HR4.out
   have z0:=zc 0;have z1:=zc 1;have z2:=zc 2;have z3:=zc 3;have f0:W4.frozen? ⟨rb,0,none⟩=false:=iG HR4.out;have f1:W4.frozen? ⟨rb,1,none⟩=false:=iG HR4.out;have f2:W4.frozen? ⟨rb,2,none⟩=false:=iG HR4.out;have f3:W4.frozen? ⟨rb,3,none⟩=false:=iG HR4.out;clear zc HR4
   refine rH 18 rfl (by kernel_rfl) fun K hK=>?_
   go_simp;change K _ (oL W4 rb (.slice o1 n1 p1) (.slice o2 n2 p2) (.slice o3 n3 p3) (.slice o4 n4 p4));clear z0 z1 z2 z3 f0 f1 f2 f3;generalize oL W4 rb (.slice o1 n1 p1) (.slice o2 n2 p2) (.slice o3 n3 p3) (.slice o4 n4 p4)=W5 at*;refine hK.out _ _ sZ.out.1.kE (fun _=>?_);clear hK K dJ;have dJ:=aY sZ.out.1.kE;refine u3 19 (.int .i64 Q.1.1) rfl dJ.out ⟨by kernel_rfl,kI,by rintro w' ⟨q1,q2,q3⟩;go_simp⟩ ?_
   refine rH 20 rfl (by kernel_rfl) fun K hK=>?_
   go_simp;refine hK.out _ _ dJ.out (fun _=>?_);clear hK K dJ;refine eF (by kernel_rfl) ?_ _
  all_goals
   clear FQ HK HW2 b0;have Rk:=aY (Tk sZ.out.1)
   go_wp2_with fail
   refine Rk.out.mono ?_;rintro e6 w6 ⟨va,A6,rfl,hst⟩;have HV6:Hid (aaS A6 va (vP Q.2.r Q.2.r.seen) w6):=⟨_,hst.row,hst.col⟩;have HK6:=aY (sZ.out.1.keep hst.base hst.hA hst.turns);have HR6:=aY (sZ.out.2.1.keep hst.hA hst.turns);have b6:=HK6.out.kE.1;have CO:=aY (xD HK6.out.base jJ (by decide));clear Rk hst sZ;generalize hL1:(dG Q.2.r jJ).getD ⟨#[]⟩=L1 at*;generalize (if (dG Q.2.r jJ).isSome=true then (0:Int) else 2)=E1 at*;have HL1:=aY hL1;clear hL1
   go_wp2_with fail
   refine CO.out.mono ?_;rintro e7 w7 ⟨rfl,Jk⟩;have HV7:=aY (HV6.out.keep Jk.2.1 Jk.2.2);have HK7:=aY (HK6.out.keep Jk.1 Jk.2.1 Jk.2.2);have HR7:=aY (HR6.out.keep Jk.2.1 Jk.2.2);clear CO Jk HV6 HK6 HR6 b6;generalize rb=rb1 at*;generalize Q=Q1 at*;have HQ1:=HQ;clear HQ;generalize A4=A4o at*;generalize W5=W5o at*;have FQ:=aP (HK7.out.below (au w7.heap.size w7).drew)
   go_wp2_with fail
   have dJ:=aP FQ.out.kE;refine dB (S:=fun w'=>PD fb wb v.x (v.v 2) w') (by kernel_rfl) ?_;change wpAnyH _ _ _ _ _ _ _ _ (World.drew _);have uM:=aY (qA FQ.out Ve.out);obtain⟨Q,hQ⟩:∃Q,Q=ou Q1.2.r v.x (v.l 2):=⟨_,rfl⟩;rw[<-hQ] at uM;have HQ:=aY hQ;clear hQ;refine u3 0 (.pointer (some ⟨wb,0,none⟩)) rfl dJ.out ?_<|u3 1 (.pointer (some ⟨wb,0,none⟩)) rfl dJ.out ?_<|u3 2 (.pointer (some ⟨wb,0,none⟩)) rfl dJ.out ?_<|u3 3 (.pointer (some ⟨fb,0,none⟩)) rfl dJ.out ?_<|u3 4 (.pointer (some ⟨wb,0,none⟩)) rfl dJ.out ?_<|u3 5 (.pointer (some ⟨wb,0,none⟩)) rfl dJ.out ?_<|u3 6 (.pointer (some ⟨wb,1,none⟩)) rfl dJ.out ?_<|u3 7 (.string v.x) rfl dJ.out ?_<|u3 8 (.pointer (some ⟨wb,0,none⟩)) rfl dJ.out ?_<|u3 9 (.pointer (some ⟨wb,0,none⟩)) rfl dJ.out ?_<|u3 10 (.pointer (some ⟨wb,2,none⟩)) rfl dJ.out ?_<|u3 11 (v.v 2) rfl dJ.out ?_ ?_;(iterate 12 ·exact⟨by kernel_rfl,kI,by rintro w' ⟨q1,q2,q3⟩;go_simp⟩)
   refine pH 12 17 rfl rfl (by kernel_rfl) (fun K hK=>?_) fun K hK=>?_
   case' _=>
    go_simp;refine uM.out.mono ?_;rintro e4 w4 ⟨r1,r2,r3,r4,A4,rfl,hrep,hrz,hb4⟩;have sZ:=aY (Jh FQ.out hb4 hrep hrz);have Bh:=aY (FQ.out.keep hb4.1 hb4.2.1 hb4.2.2);obtain⟨o1,p1,hv1,_,_⟩:=bq hrep.ran;obtain⟨o2,p2,hv2,_,_⟩:=bq hrep.cl;obtain⟨o3,p3,hv3,_,_⟩:=bq hrep.fa;obtain⟨o4,p4,hv4,_,_⟩:=bq hrep.bl;generalize Q.2.ran.length=n1 at hv1;generalize Q.2.cl.length=n2 at hv2;generalize Q.2.fa.length=n3 at hv3;generalize Q.2.bl.length=n4 at hv4;subst hv1 hv2 hv3 hv4;refine hK.out _ _ Bh.out.kE (fun _=>?_);clear hK K uM dJ hrep hrz hb4;have dJ:=aY Bh.out.kE;refine u3 13 (.tuple #[.agg #[.slice o1 n1 p1,.slice o2 n2 p2,.slice o3 n3 p3,.slice o4 n4 p4],.int .i64 Q.1.1,.int .i64 Q.1.2]) rfl dJ.out ?_<|u3 14 (.agg #[.slice o1 n1 p1,.slice o2 n2 p2,.slice o3 n3 p3,.slice o4 n4 p4]) rfl dJ.out ?_<|u3 15 (.int .i64 Q.1.1) rfl dJ.out ?_<|u3 16 (.int .i64 Q.1.2) rfl dJ.out ?_ ?_;(iterate 4 ·exact⟨by kernel_rfl,kI,by rintro w' ⟨q1,q2,q3⟩;go_simp⟩);have HX:Hid (PD fb wb v.x (v.v 2) (w4.alloc ZR)):=(Bh.out.below ((au _ _).alloc (ai _) _)).kE;have HR4:Hid ((w4.alloc ZR).heap[w4.heap.size]?=some (.cells #[.slice none 0 0,.slice none 0 0,.slice none 0 0,.slice none 0 0] 36 (0,0))):=aW _ _ _ rfl
    refine rH 17 rfl (by kernel_rfl) fun K hK=>?_
    go_simp;refine hK.out _ _ HX.out (fun _=>?_);clear hK K dJ Bh;have dJ:=HX;clear HX;change wpAnyH _ _ _ _ _ _ _ _ (w4.alloc ZR);generalize hW4:w4.alloc ZR=W4 at*;generalize Wd:w4.heap.size=rb at*;clear hW4 Wd
    have zc:∀i,W4.cell? ⟨rb,i,none⟩=(#[Value.slice none 0 0,.slice none 0 0,.slice none 0 0,.slice none 0 0]:Array Value)[i]?:=fun i=>bZ HR4.out
    have z0:=zc 0;have z1:=zc 1;have z2:=zc 2;have z3:=zc 3;have f0:W4.frozen? ⟨rb,0,none⟩=false:=iG HR4.out;have f1:W4.frozen? ⟨rb,1,none⟩=false:=iG HR4.out;have f2:W4.frozen? ⟨rb,2,none⟩=false:=iG HR4.out;have f3:W4.frozen? ⟨rb,3,none⟩=false:=iG HR4.out;clear zc HR4
    refine rH 18 rfl (by kernel_rfl) fun K hK=>?_
    go_simp;change K _ (oL W4 rb (.slice o1 n1 p1) (.slice o2 n2 p2) (.slice o3 n3 p3) (.slice o4 n4 p4));clear z0 z1 z2 z3 f0 f1 f2 f3;generalize oL W4 rb (.slice o1 n1 p1) (.slice o2 n2 p2) (.slice o3 n3 p3) (.slice o4 n4 p4)=W5 at*;refine hK.out _ _ sZ.out.1.kE (fun _=>?_);clear hK K dJ;have dJ:=aY sZ.out.1.kE;refine u3 19 (.int .i64 Q.1.1) rfl dJ.out ⟨by kernel_rfl,kI,by rintro w' ⟨q1,q2,q3⟩;go_simp⟩ ?_
    refine rH 20 rfl (by kernel_rfl) fun K hK=>?_
    go_simp;refine hK.out _ _ dJ.out (fun _=>?_);clear hK K dJ;refine eF (by kernel_rfl) ?_ _
   rotate_left
   case' _=>
    have FR:=aY (FQ.out.mark (w':=(w7).drew.alloc ZR) ((au _ _).alloc (ai _) _) (by rw[bJ];omega));go_simp;refine hK.out _ _ FR.out.kE (fun _=>?_);clear hK K dJ uM;have dJ:=aY FR.out.kE;have uM:=aY (qA FR.out Ve.out);rw[<-HQ.out] at uM
    try rw[HVT.out] at uM
    change wpAnyH _ _ _ _ _ _ _ _ ((w7).drew.alloc ZR)
    refine rH 12 rfl (by kernel_rfl) fun K hK=>?_
    go_simp;refine uM.out.mono ?_;rintro e4 W4 ⟨r1,r2,r3,r4,A4,rfl,hrep,hrz,hb4⟩;have hbb:=Ji FR.out hb4 hrep hrz;have sZ:=aY hbb.2;have HR4:=aY hbb.1;have Bh:=aY (FR.out.keep hb4.1 hb4.2.1 hb4.2.2);obtain⟨o1,p1,hv1,_,_⟩:=bq hrep.ran;obtain⟨o2,p2,hv2,_,_⟩:=bq hrep.cl;obtain⟨o3,p3,hv3,_,_⟩:=bq hrep.fa;obtain⟨o4,p4,hv4,_,_⟩:=bq hrep.bl;generalize Q.2.ran.length=n1 at hv1;generalize Q.2.cl.length=n2 at hv2;generalize Q.2.fa.length=n3 at hv3;generalize Q.2.bl.length=n4 at hv4;subst hv1 hv2 hv3 hv4;refine hK.out _ _ Bh.out.kE (fun _=>?_);clear hK K uM dJ hrep hrz hb4 hbb FR;have dJ:=aY Bh.out.kE;clear Bh;refine u3 13 (.tuple #[.agg #[.slice o1 n1 p1,.slice o2 n2 p2,.slice o3 n3 p3,.slice o4 n4 p4],.int .i64 Q.1.1,.int .i64 Q.1.2]) rfl dJ.out ?_<|u3 14 (.agg #[.slice o1 n1 p1,.slice o2 n2 p2,.slice o3 n3 p3,.slice o4 n4 p4]) rfl dJ.out ?_<|u3 15 (.int .i64 Q.1.1) rfl dJ.out ?_<|u3 16 (.int .i64 Q.1.2) rfl dJ.out ?_ ?_;(iterate 4 ·exact⟨by kernel_rfl,kI,by rintro w' ⟨q1,q2,q3⟩;go_simp⟩);generalize Wd:(w7).heap.size=rb at*;clear Wd
    have zc:∀i,W4.cell? ⟨rb,i,none⟩=(#[Value.slice none 0 0,.slice none 0 0,.slice none 0 0,.slice none 0 0]:Array Value)[i]?:=fun i=>bZ HR4.out
    have z0:=zc 0;have z1:=zc 1;have z2:=zc 2;have z3:=zc 3;have f0:W4.frozen? ⟨rb,0,none⟩=false:=iG HR4.out;have f1:W4.frozen? ⟨rb,1,none⟩=false:=iG HR4.out;have f2:W4.frozen? ⟨rb,2,none⟩=false:=iG HR4.out;have f3:W4.frozen? ⟨rb,3,none⟩=false:=iG HR4.out;clear zc HR4
    refine rH 18 rfl (by kernel_rfl) fun K hK=>?_
    go_simp;change K _ (oL W4 rb (.slice o1 n1 p1) (.slice o2 n2 p2) (.slice o3 n3 p3) (.slice o4 n4 p4));clear z0 z1 z2 z3 f0 f1 f2 f3;generalize oL W4 rb (.slice o1 n1 p1) (.slice o2 n2 p2) (.slice o3 n3 p3) (.slice o4 n4 p4)=W5 at*;refine hK.out _ _ sZ.out.1.kE (fun _=>?_);clear hK K dJ;have dJ:=aY sZ.out.1.kE;refine u3 19 (.int .i64 Q.1.1) rfl dJ.out ⟨by kernel_rfl,kI,by rintro w' ⟨q1,q2,q3⟩;go_simp⟩ ?_
    refine rH 20 rfl (by kernel_rfl) fun K hK=>?_
    go_simp;refine hK.out _ _ dJ.out (fun _=>?_);clear hK K dJ;refine eF (by kernel_rfl) ?_ _
   all_goals
    have HVX:=aY (HV7.out.keep sZ.out.2.2.1 sZ.out.2.2.2);have HRX:=aY (HR7.out.keep sZ.out.2.2.1 sZ.out.2.2.2);clear FQ HK7 HV7 HR7;have Rk:=aY (Tk sZ.out.1)
    go_wp2_with fail
    refine Rk.out.mono ?_;rintro e8 w8 ⟨vb,A8,rfl,hst⟩;have HW8:Hid (aaS A8 vb (vP Q.2.r Q.2.r.seen) w8):=⟨_,hst.row,hst.col⟩;have HV8:=aY (HVX.out.keep hst.hA hst.turns);have HK8:=aY (sZ.out.1.keep hst.base hst.hA hst.turns);have HR8:=aY (HRX.out.keep hst.hA hst.turns);have HS8:=aY (sZ.out.2.1.keep hst.hA hst.turns);have b8:=HK8.out.kE.1;have CO:=aY (xD HK8.out.base jJ (by decide));clear Rk hst sZ HVX HRX;generalize hL2:(dG Q.2.r jJ).getD ⟨#[]⟩=L2 at*;generalize (if (dG Q.2.r jJ).isSome=true then (0:Int) else 2)=E2 at*;have HL2:=aY hL2;clear hL2
    go_wp2_with fail
    refine CO.out.mono ?_;rintro e9 w9 ⟨rfl,Hu⟩;have HW9:=aY (HW8.out.keep Hu.2.1 Hu.2.2);have HV9:=aY (HV8.out.keep Hu.2.1 Hu.2.2);have HK9:=aY (HK8.out.keep Hu.1 Hu.2.1 Hu.2.2);have HR9:=aY (HR8.out.keep Hu.2.1 Hu.2.2);have HS9:=aY (HS8.out.keep Hu.2.1 Hu.2.2);have Pt:Hid (aQ (fun k=>w.heap.size<=k) w w9):=HT2.out.trans HK9.out.bl (fun k q=>aG (aA HT2.out.size q));clear CO Hu HW8 HV8 HK8 HR8 HS8 b8;have HPU:=aY (OZ HUP.out v.x (v.l 2));rw[<-HQ1.out,<-HQ.out] at HPU
    by_cases h3:Q1.1.1=3
    ·have h3':=h3;clear h3;generalize Q1.1.1=z1 at*;subst h3'
     go_wp2
     go_ret;exact⟨rfl,Pt.out⟩
    have HSA:Hid (Q.2.r=Q1.2.r/\((Q1.1.1≠0/\Q=Q1)\/(Q1.1.1=0/\Q.1.1=0/\Q.2.ran=[]/\Q.2.cl.length=Q1.2.ran.length+Q1.2.cl.length/\Q.2.fa=Q1.2.fa/\Q.2.bl=Q1.2.bl))):=by
     rcases HPU.out with e|⟨e,er⟩|⟨e,K,h1,h2,h3,h4,h5,h6⟩
     ·exact absurd e h3
     ·have hq:Q=Q1:=by rw[HQ.out,er];exact HQ1.out.symm
      exact⟨by rw[hq],aG ⟨e,hq⟩⟩
     rw[h1];exact⟨h2,aL ⟨e,rfl,h3,h4,h5,h6⟩⟩
    have CK:Hid (L2=L1):=by show _=_;rw[<-HL2.out,<-HL1.out,HSA.out.1]
    have HAN:=aY (aa2 HK9.out.base);rw[HSA.out.1] at HW9 HAN;obtain rfl:L2=L1:=CK.out;have HSM:=aY (Zr (vP Q1.2.r Q1.2.r.seen) va vb w9 (by obtain⟨_,h,_⟩:=HV9.out;exact Un h) (by obtain⟨_,h,_⟩:=HW9.out;exact Un h) HAN.out);clear HPU CK HL1 HL2 HW9 HV9 HAN;have qs:(L2.toList==L2.toList)=true:=IK _
    go_wp2_with fail
    refine HSM.out.mono ?_;rintro e10 yh ⟨rfl,m10,aiN⟩
    have aaC:Hid (Below w9.heap.size w9 yh):=by rw[aiN];exact⟨rfl,rfl,rfl,ai _,fun _ _=>rfl⟩
    have akO:Hid (aQ (fun k=>w.heap.size<=k) w yh):=Pt.out.trans (aQ.of_below (fun _=>False) aaC.out) (fun _ q=>q.elim);clear aiN HSM
    by_cases h0:Q1.1.1=0
    ·obtain⟨g1,g2,g3,g4,g5⟩:Q.1.1=0/\Q.2.ran=[]/\Q.2.cl.length=Q1.2.ran.length+Q1.2.cl.length/\Q.2.fa=Q1.2.fa/\Q.2.bl=Q1.2.bl:=by
      rcases HSA.out.2 with e|e
      ·exact absurd h0 e.1
      exact e.2
     have hfw:=aej r v.x (v.l 2);rw[<-HQ1.out] at hfw;unfold Fz at hfw;obtain⟨⟨s1,s2,s3,s4,hs,hsr,_⟩,_⟩:=HR9.out;obtain⟨⟨u1,u2,u3,u4,hu,hur,_⟩,_⟩:=HS9.out;obtain⟨p1,q1,hv1,_,_⟩:=bq hsr.ran;obtain⟨p2,q2,hv2,_,_⟩:=bq hsr.cl;obtain⟨p3,q3,hv3,_,_⟩:=bq hur.ran;obtain⟨p4,q4,hv4,_,_⟩:=bq hur.cl;rw[g2] at hv3;rw[g3] at hv4
     have HFA:Hid (∀w',Below w9.heap.size w9 w'->bG w' s3 Q1.2.fa/\bG w' u3 Q1.2.fa/\bG w' s4 Q1.2.bl/\bG w' u4 Q1.2.bl):=fun w' hb=>by
      have t3:=mV hur.fa;have t4:=mV hur.bl;rw[g4] at t3;rw[g5] at t4;exact⟨(mV hsr.fa).gY hb,t3.gY hb,(mV hsr.bl).gY hb,t4.gY hb⟩
     have Vm:Hid (Q1.2.fa.length<=64/\Q1.2.bl.length<=64):=⟨by omega,by omega⟩
     have alJ:Q1.2.ran.length+Q1.2.cl.length<=64:=by omega
     generalize Q1.2.ran.length=n1 at*;generalize Q1.2.cl.length=n2 at*
     have HCE:Hid (∀w',Below w9.heap.size w9 w'->(∀i,w'.cell? ⟨rb1,i,none⟩=(#[s1,s2,s3,s4]:Array Value)[i]?)/\∀i,w'.cell? ⟨rb,i,none⟩=(#[u1,u2,u3,u4]:Array Value)[i]?):=fun w' hb=>⟨fun i=>bZ ((hb.block rb1 (bI hs)).trans hs),fun i=>bZ ((hb.block rb (bI hu)).trans hu)⟩
     subst hv1 hv2 hv3 hv4;clear hs hu hsr hur g2 g3 g4 g5 hfw HR9 HS9 HSA HK9 HQ HQ1;generalize Q1.1.1=z1 at*;generalize Q.1.1=z2 at*;subst h0 g1;have HF1:=HFA.out yh aaC.out;have HM1:=aY (BP Q1.2.fa s3 u3 yh HF1.1 HF1.2.1 (aA Vm.out.1 (by decide)));have c2:=(HCE.out yh aaC.out).1 2;have d2:=(HCE.out yh aaC.out).2 2;simp only[bT,aS,dR,bW,Nat.reduceAdd,Nat.reduceLT,Ze,Px,Jz,JA] at c2 d2;clear HF1
     go_wp2_with fail
     refine HM1.out.mono ?_;rintro e11 GR ⟨rfl,m11,aiO⟩
     have Yk:Hid (Below w9.heap.size w9 GR):=by rw[aiO];exact aaC.out.trans ⟨rfl,rfl,rfl,ai _,fun _ _=>rfl⟩
     clear aiO HM1 c2 d2;have HF1:=HFA.out GR Yk.out;have HM2:=aY (BP Q1.2.bl s4 u4 GR HF1.2.2.1 HF1.2.2.2 (aA Vm.out.2 (by decide)));have c3:=(HCE.out GR Yk.out).1 3;have d3:=(HCE.out GR Yk.out).2 3;simp only[bT,aS,dR,bW,Nat.reduceAdd,Nat.reduceLT,Ze,Px,Jz,JA] at c3 d3;clear HF1
     go_wp2_with fail
     refine HM2.out.mono ?_;rintro e12 w12 ⟨rfl,m12,aiP⟩
     have aaD:Hid (Below w9.heap.size w9 w12):=by rw[aiP];exact Yk.out.trans ⟨rfl,rfl,rfl,ai _,fun _ _=>rfl⟩
     have akP:Hid (aQ (fun k=>w.heap.size<=k) w w12):=Pt.out.trans (aQ.of_below (fun _=>False) aaD.out) (fun _ q=>q.elim);clear aiP HM2 c3 d3;have c0:=(HCE.out w12 aaD.out).1 0;have c1:=(HCE.out w12 aaD.out).1 1;have d0:=(HCE.out w12 aaD.out).2 0;have d1:=(HCE.out w12 aaD.out).2 1;simp only[bT,aS,dR,bW,Nat.reduceAdd,Nat.reduceLT,Ze,Px,Jz,JA] at c0 c1 d0 d1
     have hn3:(n1:Int)+(n2:Int)<=64:=by omega
     clear HFA HCE Vm alJ
     go_wp2
     go_ret;exact⟨rfl,akP.out⟩
    obtain rfl:Q=Q1:=by
     rcases HSA.out.2 with e|e
     ·exact e.2
     exact absurd e.1 h0
    clear HSA HQ HQ1 HR9 HS9 HK9;generalize Q.1.1=z1 at*;generalize Q.1.2=z2 at*
    go_wp2
    go_ret;exact⟨rfl,akO.out⟩
end
def FY:ah:=⟨#[114,117,108,101,32,114,10,32,99,111,109,109,97,110,100,32,61,32,99,97,116,32,36,105,110,10,98,117,105,108,100,32,98,58,32,114,32,97,10]⟩
def DJ:bS:=(eu ⟨[],[],9999,[],0,false,false⟩ ⟨#[97]⟩ ⟨#[100,97,116,97]⟩).2
theorem YB:Up DJ:=⟨by kernel_rfl,by kernel_rfl⟩
theorem Vw:(decide ((ou DJ FY []).1.1=0)&&decide ((ou DJ FY []).2.ran.length=1)&&decide ((ou DJ FY []).2.cl.length=0)&&decide (dG (ou DJ FY []).2.r ⟨#[98]⟩=some ⟨#[100,97,116,97]⟩))=true:=by kernel_rfl
section
open Go.RowKit Go.Maps
theorem Wp(a:Nat->Addr)(t:Nat->ah)(w:aj)(h:Ew a t w):
  Calls Tryz.prog 17 #[] w fun e w'=>e=.returned (.bool true)/\aQ (fun k=>w.heap.size<=k) w w':=by
 have HG:=aY h;have Eu:=aY (TQ (fun _=>0) 1 0 w h.gl.size 9999);clear h
 go_enter Tryz.func17,Tryz.ntmps17
 go_wp2_with fail
 refine Eu.out.mono ?_;rintro e1 w1 ⟨fb,A',rfl,hp,hA,_,hb1⟩;obtain⟨A2,hk⟩:=abM (left:=9999999+1) HG.out hp (rV.fresh 0 9999) hA hb1 (by omega) FY (by decide);rw[show min (max (9999:Int) 0) 65536=9999 by decide] at hk;have Pq:=aP hk;have b0:=Pq.out.kE.1;have HST:=aY (KL (left:=9999999) Pq.out rfl 0 0 ⟨#[97]⟩ ⟨#[100,97,116,97]⟩ (by decide) (by decide) (by decide));clear hk hp hA hb1 Eu
 go_wp2_with fail
 refine HST.out.mono ?_;rintro e2 w2 ⟨rfl,ob,A3,v,hm⟩;have HK:=aP hm.kw;have HVX:=aP hm.x;have HVT:=aP hm.vt;have HVL:=aP hm.ts
 have Ve:Hid ((v.l 2).length<=1048576):=by show _<=_;rw[HVL.out];exact aN _
 clear hm HST Pq b0;generalize w1.heap.size=wb at*;have FQ:Hid (KW w A3 a t (7999999+2000000) fb wb DJ v w2.drew):=HK.out.below (au w2.heap.size w2).drew
 go_wp2_with fail
 have dJ:=aP FQ.out.kE;refine dB (S:=fun w'=>PD fb wb v.x (v.v 2) w') (by kernel_rfl) ?_;change wpAnyH _ _ _ _ _ _ _ _ (World.drew _);have uM:=aY (qA FQ.out Ve.out);obtain⟨Q,hQ⟩:∃Q,Q=ou DJ v.x (v.l 2):=⟨_,rfl⟩;rw[<-hQ] at uM;have HQ:=aY hQ;clear hQ;rw[HVT.out] at uM;refine u3 0 (.pointer (some ⟨wb,0,none⟩)) rfl dJ.out ?_<|u3 1 (.pointer (some ⟨wb,0,none⟩)) rfl dJ.out ?_<|u3 2 (.pointer (some ⟨wb,0,none⟩)) rfl dJ.out ?_<|u3 3 (.pointer (some ⟨fb,0,none⟩)) rfl dJ.out ?_<|u3 4 (.pointer (some ⟨wb,0,none⟩)) rfl dJ.out ?_<|u3 5 (.pointer (some ⟨wb,0,none⟩)) rfl dJ.out ?_<|u3 6 (.pointer (some ⟨wb,1,none⟩)) rfl dJ.out ?_<|u3 7 (.string v.x) rfl dJ.out ?_ ?_;(iterate 8 ·exact⟨by kernel_rfl,kI,by rintro w' ⟨q1,q2,q3⟩;go_simp⟩)
 refine pH 8 13 rfl rfl (by kernel_rfl) (fun K hK=>?_) fun K hK=>?_
 case' _=>
  go_simp;refine uM.out.mono ?_;rintro e4 w4 ⟨r1,r2,r3,r4,A4,rfl,hrep,hrz,hb4⟩;have sZ:=aY (Jh FQ.out hb4 hrep hrz);have Bh:=aY (FQ.out.keep hb4.1 hb4.2.1 hb4.2.2);obtain⟨o1,p1,hv1,_,_⟩:=bq hrep.ran;obtain⟨o2,p2,hv2,_,_⟩:=bq hrep.cl;obtain⟨o3,p3,hv3,_,_⟩:=bq hrep.fa;obtain⟨o4,p4,hv4,_,_⟩:=bq hrep.bl;generalize Q.2.ran.length=n1 at hv1;generalize Q.2.cl.length=n2 at hv2;generalize Q.2.fa.length=n3 at hv3;generalize Q.2.bl.length=n4 at hv4;subst hv1 hv2 hv3 hv4;refine hK.out _ _ Bh.out.kE (fun _=>?_);clear hK K uM dJ hrep hrz hb4;have dJ:=aY Bh.out.kE;refine u3 9 (.tuple #[.agg #[.slice o1 n1 p1,.slice o2 n2 p2,.slice o3 n3 p3,.slice o4 n4 p4],.int .i64 Q.1.1,.int .i64 Q.1.2]) rfl dJ.out ?_<|u3 10 (.agg #[.slice o1 n1 p1,.slice o2 n2 p2,.slice o3 n3 p3,.slice o4 n4 p4]) rfl dJ.out ?_<|u3 11 (.int .i64 Q.1.1) rfl dJ.out ?_<|u3 12 (.int .i64 Q.1.2) rfl dJ.out ?_ ?_;(iterate 4 ·exact⟨by kernel_rfl,kI,by rintro w' ⟨q1,q2,q3⟩;go_simp⟩);have HX:Hid (PD fb wb v.x (v.v 2) (w4.alloc ZR)):=(Bh.out.below ((au _ _).alloc (ai _) _)).kE;have HR4:Hid ((w4.alloc ZR).heap[w4.heap.size]?=some (.cells #[.slice none 0 0,.slice none 0 0,.slice none 0 0,.slice none 0 0] 36 (0,0))):=aW _ _ _ rfl
  refine rH 13 rfl (by kernel_rfl) fun K hK=>?_
  go_simp;refine hK.out _ _ HX.out (fun _=>?_);clear hK K dJ Bh;have dJ:=HX;clear HX;change wpAnyH _ _ _ _ _ _ _ _ (w4.alloc ZR);generalize hW4:w4.alloc ZR=W4 at*;generalize Wd:w4.heap.size=rb at*;clear hW4 Wd
  have zc:∀i,W4.cell? ⟨rb,i,none⟩=(#[Value.slice none 0 0,.slice none 0 0,.slice none 0 0,.slice none 0 0]:Array Value)[i]?:=fun i=>bZ HR4.out
  have z0:=zc 0;have z1:=zc 1;have z2:=zc 2;have z3:=zc 3;have f0:W4.frozen? ⟨rb,0,none⟩=false:=iG HR4.out;have f1:W4.frozen? ⟨rb,1,none⟩=false:=iG HR4.out;have f2:W4.frozen? ⟨rb,2,none⟩=false:=iG HR4.out;have f3:W4.frozen? ⟨rb,3,none⟩=false:=iG HR4.out;clear zc HR4
  refine rH 14 rfl (by kernel_rfl) fun K hK=>?_
  go_simp;change K _ (oL W4 rb (.slice o1 n1 p1) (.slice o2 n2 p2) (.slice o3 n3 p3) (.slice o4 n4 p4));clear z0 z1 z2 z3 f0 f1 f2 f3;generalize oL W4 rb (.slice o1 n1 p1) (.slice o2 n2 p2) (.slice o3 n3 p3) (.slice o4 n4 p4)=W5 at*;refine hK.out _ _ sZ.out.1.kE (fun _=>?_);clear hK K dJ;have dJ:=aY sZ.out.1.kE;refine u3 15 (.int .i64 Q.1.1) rfl dJ.out ⟨by kernel_rfl,kI,by rintro w' ⟨q1,q2,q3⟩;go_simp⟩ ?_
  refine rH 16 rfl (by kernel_rfl) fun K hK=>?_
  go_simp;refine hK.out _ _ dJ.out (fun _=>?_);clear hK K dJ;refine eF (by kernel_rfl) ?_ _
 rotate_left
 case' _=>
  have FR:=aY (FQ.out.mark (w':=(w2).drew.alloc ZR) ((au _ _).alloc (ai _) _) (by rw[bJ];omega));go_simp;refine hK.out _ _ FR.out.kE (fun _=>?_);clear hK K dJ uM;have dJ:=aY FR.out.kE;have uM:=aY (qA FR.out Ve.out);rw[<-HQ.out] at uM
  try rw[HVT.out] at uM
  change wpAnyH _ _ _ _ _ _ _ _ ((w2).drew.alloc ZR)
  refine rH 8 rfl (by kernel_rfl) fun K hK=>?_
  go_simp;refine uM.out.mono ?_;rintro e4 W4 ⟨r1,r2,r3,r4,A4,rfl,hrep,hrz,hb4⟩;have hbb:=Ji FR.out hb4 hrep hrz;have sZ:=aY hbb.2;have HR4:=aY hbb.1;have Bh:=aY (FR.out.keep hb4.1 hb4.2.1 hb4.2.2);obtain⟨o1,p1,hv1,_,_⟩:=bq hrep.ran;obtain⟨o2,p2,hv2,_,_⟩:=bq hrep.cl;obtain⟨o3,p3,hv3,_,_⟩:=bq hrep.fa;obtain⟨o4,p4,hv4,_,_⟩:=bq hrep.bl;generalize Q.2.ran.length=n1 at hv1;generalize Q.2.cl.length=n2 at hv2;generalize Q.2.fa.length=n3 at hv3;generalize Q.2.bl.length=n4 at hv4;subst hv1 hv2 hv3 hv4;refine hK.out _ _ Bh.out.kE (fun _=>?_);clear hK K uM dJ hrep hrz hb4 hbb FR;have dJ:=aY Bh.out.kE;clear Bh;refine u3 9 (.tuple #[.agg #[.slice o1 n1 p1,.slice o2 n2 p2,.slice o3 n3 p3,.slice o4 n4 p4],.int .i64 Q.1.1,.int .i64 Q.1.2]) rfl dJ.out ?_<|u3 10 (.agg #[.slice o1 n1 p1,.slice o2 n2 p2,.slice o3 n3 p3,.slice o4 n4 p4]) rfl dJ.out ?_<|u3 11 (.int .i64 Q.1.1) rfl dJ.out ?_<|u3 12 (.int .i64 Q.1.2) rfl dJ.out ?_ ?_;(iterate 4 ·exact⟨by kernel_rfl,kI,by rintro w' ⟨q1,q2,q3⟩;go_simp⟩);generalize Wd:(w2).heap.size=rb at*;clear Wd
  have zc:∀i,W4.cell? ⟨rb,i,none⟩=(#[Value.slice none 0 0,.slice none 0 0,.slice none 0 0,.slice none 0 0]:Array Value)[i]?:=fun i=>bZ HR4.out
  have z0:=zc 0;have z1:=zc 1;have z2:=zc 2;have z3:=zc 3;have f0:W4.frozen? ⟨rb,0,none⟩=false:=iG HR4.out;have f1:W4.frozen? ⟨rb,1,none⟩=false:=iG HR4.out;have f2:W4.frozen? ⟨rb,2,none⟩=false:=iG HR4.out;have f3:W4.frozen? ⟨rb,3,none⟩=false:=iG HR4.out;clear zc HR4
  refine rH 14 rfl (by kernel_rfl) fun K hK=>?_
  go_simp;change K _ (oL W4 rb (.slice o1 n1 p1) (.slice o2 n2 p2) (.slice o3 n3 p3) (.slice o4 n4 p4));clear z0 z1 z2 z3 f0 f1 f2 f3;generalize oL W4 rb (.slice o1 n1 p1) (.slice o2 n2 p2) (.slice o3 n3 p3) (.slice o4 n4 p4)=W5 at*;refine hK.out _ _ sZ.out.1.kE (fun _=>?_);clear hK K dJ;have dJ:=aY sZ.out.1.kE;refine u3 15 (.int .i64 Q.1.1) rfl dJ.out ⟨by kernel_rfl,kI,by rintro w' ⟨q1,q2,q3⟩;go_simp⟩ ?_
  refine rH 16 rfl (by kernel_rfl) fun K hK=>?_
  go_simp;refine hK.out _ _ dJ.out (fun _=>?_);clear hK K dJ;refine eF (by kernel_rfl) ?_ _
 all_goals
  clear FQ HK;have HB1:=sZ;generalize rb=rb1 at*;generalize Q=Q1 at*;have HQ1:=HQ;clear HQ sZ;generalize A4=A5 at*;generalize W5=w5 at*;have FQ:=aP (HB1.out.1.below (au w5.heap.size w5).drew)
  go_wp2_with fail
  have dJ:=aP FQ.out.kE;refine dB (S:=fun w'=>PD fb wb v.x (v.v 2) w') (by kernel_rfl) ?_;change wpAnyH _ _ _ _ _ _ _ _ (World.drew _);have uM:=aY (qA FQ.out Ve.out);obtain⟨Q,hQ⟩:∃Q,Q=ou Q1.2.r v.x (v.l 2):=⟨_,rfl⟩;rw[<-hQ] at uM;have HQ:=aY hQ;clear hQ;rw[HVT.out] at uM;refine u3 0 (.pointer (some ⟨wb,0,none⟩)) rfl dJ.out ?_<|u3 1 (.pointer (some ⟨wb,0,none⟩)) rfl dJ.out ?_<|u3 2 (.pointer (some ⟨wb,0,none⟩)) rfl dJ.out ?_<|u3 3 (.pointer (some ⟨fb,0,none⟩)) rfl dJ.out ?_<|u3 4 (.pointer (some ⟨wb,0,none⟩)) rfl dJ.out ?_<|u3 5 (.pointer (some ⟨wb,0,none⟩)) rfl dJ.out ?_<|u3 6 (.pointer (some ⟨wb,1,none⟩)) rfl dJ.out ?_<|u3 7 (.string v.x) rfl dJ.out ?_ ?_;(iterate 8 ·exact⟨by kernel_rfl,kI,by rintro w' ⟨q1,q2,q3⟩;go_simp⟩)
  refine pH 8 13 rfl rfl (by kernel_rfl) (fun K hK=>?_) fun K hK=>?_
  case' _=>
   go_simp;refine uM.out.mono ?_;rintro e4 w4 ⟨r1,r2,r3,r4,A4,rfl,hrep,hrz,hb4⟩;have sZ:=aY (Jh FQ.out hb4 hrep hrz);have Bh:=aY (FQ.out.keep hb4.1 hb4.2.1 hb4.2.2);obtain⟨o1,p1,hv1,_,_⟩:=bq hrep.ran;obtain⟨o2,p2,hv2,_,_⟩:=bq hrep.cl;obtain⟨o3,p3,hv3,_,_⟩:=bq hrep.fa;obtain⟨o4,p4,hv4,_,_⟩:=bq hrep.bl;generalize Q.2.ran.length=n1 at hv1;generalize Q.2.cl.length=n2 at hv2;generalize Q.2.fa.length=n3 at hv3;generalize Q.2.bl.length=n4 at hv4;subst hv1 hv2 hv3 hv4;refine hK.out _ _ Bh.out.kE (fun _=>?_);clear hK K uM dJ hrep hrz hb4;have dJ:=aY Bh.out.kE;refine u3 9 (.tuple #[.agg #[.slice o1 n1 p1,.slice o2 n2 p2,.slice o3 n3 p3,.slice o4 n4 p4],.int .i64 Q.1.1,.int .i64 Q.1.2]) rfl dJ.out ?_<|u3 10 (.agg #[.slice o1 n1 p1,.slice o2 n2 p2,.slice o3 n3 p3,.slice o4 n4 p4]) rfl dJ.out ?_<|u3 11 (.int .i64 Q.1.1) rfl dJ.out ?_<|u3 12 (.int .i64 Q.1.2) rfl dJ.out ?_ ?_;(iterate 4 ·exact⟨by kernel_rfl,kI,by rintro w' ⟨q1,q2,q3⟩;go_simp⟩);have HX:Hid (PD fb wb v.x (v.v 2) (w4.alloc ZR)):=(Bh.out.below ((au _ _).alloc (ai _) _)).kE;have HR4:Hid ((w4.alloc ZR).heap[w4.heap.size]?=some (.cells #[.slice none 0 0,.slice none 0 0,.slice none 0 0,.slice none 0 0] 36 (0,0))):=aW _ _ _ rfl
   refine rH 13 rfl (by kernel_rfl) fun K hK=>?_
   go_simp;refine hK.out _ _ HX.out (fun _=>?_);clear hK K dJ Bh;have dJ:=HX;clear HX;change wpAnyH _ _ _ _ _ _ _ _ (w4.alloc ZR);generalize hW4:w4.alloc ZR=W4 at*;generalize Wd:w4.heap.size=rb at*;clear hW4 Wd
   have zc:∀i,W4.cell? ⟨rb,i,none⟩=(#[Value.slice none 0 0,.slice none 0 0,.slice none 0 0,.slice none 0 0]:Array Value)[i]?:=fun i=>bZ HR4.out
   have z0:=zc 0;have z1:=zc 1;have z2:=zc 2;have z3:=zc 3;have f0:W4.frozen? ⟨rb,0,none⟩=false:=iG HR4.out;have f1:W4.frozen? ⟨rb,1,none⟩=false:=iG HR4.out;have f2:W4.frozen? ⟨rb,2,none⟩=false:=iG HR4.out;have f3:W4.frozen? ⟨rb,3,none⟩=false:=iG HR4.out;clear zc HR4
   refine rH 14 rfl (by kernel_rfl) fun K hK=>?_
   go_simp;change K _ (oL W4 rb (.slice o1 n1 p1) (.slice o2 n2 p2) (.slice o3 n3 p3) (.slice o4 n4 p4));clear z0 z1 z2 z3 f0 f1 f2 f3;generalize oL W4 rb (.slice o1 n1 p1) (.slice o2 n2 p2) (.slice o3 n3 p3) (.slice o4 n4 p4)=W5 at*;refine hK.out _ _ sZ.out.1.kE (fun _=>?_);clear hK K dJ;have dJ:=aY sZ.out.1.kE;refine u3 15 (.int .i64 Q.1.1) rfl dJ.out ⟨by kernel_rfl,kI,by rintro w' ⟨q1,q2,q3⟩;go_simp⟩ ?_
   refine rH 16 rfl (by kernel_rfl) fun K hK=>?_
   go_simp;refine hK.out _ _ dJ.out (fun _=>?_);clear hK K dJ;refine eF (by kernel_rfl) ?_ _
  rotate_left
  case' _=>
   have FR:=aY (FQ.out.mark (w':=(w5).drew.alloc ZR) ((au _ _).alloc (ai _) _) (by rw[bJ];omega));go_simp;refine hK.out _ _ FR.out.kE (fun _=>?_);clear hK K dJ uM;have dJ:=aY FR.out.kE;have uM:=aY (qA FR.out Ve.out);rw[<-HQ.out] at uM
   try rw[HVT.out] at uM
   change wpAnyH _ _ _ _ _ _ _ _ ((w5).drew.alloc ZR)
   refine rH 8 rfl (by kernel_rfl) fun K hK=>?_
   go_simp;refine uM.out.mono ?_;rintro e4 W4 ⟨r1,r2,r3,r4,A4,rfl,hrep,hrz,hb4⟩;have hbb:=Ji FR.out hb4 hrep hrz;have sZ:=aY hbb.2;have HR4:=aY hbb.1;have Bh:=aY (FR.out.keep hb4.1 hb4.2.1 hb4.2.2);obtain⟨o1,p1,hv1,_,_⟩:=bq hrep.ran;obtain⟨o2,p2,hv2,_,_⟩:=bq hrep.cl;obtain⟨o3,p3,hv3,_,_⟩:=bq hrep.fa;obtain⟨o4,p4,hv4,_,_⟩:=bq hrep.bl;generalize Q.2.ran.length=n1 at hv1;generalize Q.2.cl.length=n2 at hv2;generalize Q.2.fa.length=n3 at hv3;generalize Q.2.bl.length=n4 at hv4;subst hv1 hv2 hv3 hv4;refine hK.out _ _ Bh.out.kE (fun _=>?_);clear hK K uM dJ hrep hrz hb4 hbb FR;have dJ:=aY Bh.out.kE;clear Bh;refine u3 9 (.tuple #[.agg #[.slice o1 n1 p1,.slice o2 n2 p2,.slice o3 n3 p3,.slice o4 n4 p4],.int .i64 Q.1.1,.int .i64 Q.1.2]) rfl dJ.out ?_<|u3 10 (.agg #[.slice o1 n1 p1,.slice o2 n2 p2,.slice o3 n3 p3,.slice o4 n4 p4]) rfl dJ.out ?_<|u3 11 (.int .i64 Q.1.1) rfl dJ.out ?_<|u3 12 (.int .i64 Q.1.2) rfl dJ.out ?_ ?_;(iterate 4 ·exact⟨by kernel_rfl,kI,by rintro w' ⟨q1,q2,q3⟩;go_simp⟩);generalize Wd:(w5).heap.size=rb at*;clear Wd
   have zc:∀i,W4.cell? ⟨rb,i,none⟩=(#[Value.slice none 0 0,.slice none 0 0,.slice none 0 0,.slice none 0 0]:Array Value)[i]?:=fun i=>bZ HR4.out
   have z0:=zc 0;have z1:=zc 1;have z2:=zc 2;have z3:=zc 3;have f0:W4.frozen? ⟨rb,0,none⟩=false:=iG HR4.out;have f1:W4.frozen? ⟨rb,1,none⟩=false:=iG HR4.out;have f2:W4.frozen? ⟨rb,2,none⟩=false:=iG HR4.out;have f3:W4.frozen? ⟨rb,3,none⟩=false:=iG HR4.out;clear zc HR4
   refine rH 14 rfl (by kernel_rfl) fun K hK=>?_
   go_simp;change K _ (oL W4 rb (.slice o1 n1 p1) (.slice o2 n2 p2) (.slice o3 n3 p3) (.slice o4 n4 p4));clear z0 z1 z2 z3 f0 f1 f2 f3;generalize oL W4 rb (.slice o1 n1 p1) (.slice o2 n2 p2) (.slice o3 n3 p3) (.slice o4 n4 p4)=W5 at*;refine hK.out _ _ sZ.out.1.kE (fun _=>?_);clear hK K dJ;have dJ:=aY sZ.out.1.kE;refine u3 15 (.int .i64 Q.1.1) rfl dJ.out ⟨by kernel_rfl,kI,by rintro w' ⟨q1,q2,q3⟩;go_simp⟩ ?_
   refine rH 16 rfl (by kernel_rfl) fun K hK=>?_
   go_simp;refine hK.out _ _ dJ.out (fun _=>?_);clear hK K dJ;refine eF (by kernel_rfl) ?_ _
  all_goals
   have HR:=aY (HB1.out.2.1.keep sZ.out.2.2.1 sZ.out.2.2.2);have b5:=sZ.out.1.kE.1;have CO:=aY (xD sZ.out.1.base ⟨#[98]⟩ (by decide));have hc:=Vw;simp only[qW,kW] at hc;have hQ1:=HQ1.out;rw[HVX.out,HVL.out] at hQ1;have hQ:=HQ.out;rw[HVX.out,HVL.out] at hQ;rw[<-hQ1] at hc;have Wi:=OZ YB FY [];rw[<-hQ1,<-hQ] at Wi;obtain⟨⟨⟨c1,c2⟩,c3⟩,c4⟩:=hc
   have HX:Hid (Q.1.1=0/\Q.2.ran.length=0/\Q.2.cl.length=1/\Q.2.r=Q1.2.r):=by
    rcases Wi with e|⟨e,_⟩|⟨_,K,h1,h2,h3,h4,_⟩
    ·rw[c1] at e;cases e
    ·exact absurd c1 e
    rw[h1];exact⟨rfl,by rw[h3];rfl,by rw[h4,c2,c3],h2⟩
   rw[HX.out.2.2.2,c4] at CO;clear Wi hQ1 hQ HQ HQ1 FQ HB1
   have qd:((⟨#[100,97,116,97]⟩:ah).toList==[100,97,116,97])=true:=by rw[dX];rfl
   have ahD:Hid (Calls Tryz.prog 21 #[.pointer (some ⟨fb,0,none⟩),.string ⟨#[98]⟩] W5 fun e w'=>e=.returned (.tuple #[.string ⟨#[100,97,116,97]⟩,.int .i64 0])/\nW A4 a t 5999999 fb Q1.2.r W5 w' A4):=by
    exact CO.out
   clear CO
   go_wp2_with fail
   refine ahD.out.mono ?_;rintro e9 w9 ⟨rfl,Hu⟩;obtain⟨⟨s1,s2,s3,s4,hs,hsr,_⟩,_⟩:=(HR.out.keep Hu.2.1 Hu.2.2);obtain⟨⟨u1,u2,u3,u4,hu,hur,_⟩,_⟩:=(sZ.out.2.1.keep Hu.2.1 Hu.2.2)
   have Pt:Hid (aQ (fun k=>w.heap.size<=k) w w9):=sZ.out.1.bl.trans Hu.2.2 (fun k q=>aL (by
    rcases bR k w.heap.size with z|z
    ·rw[sZ.out.1.low k z] at q;cases q
    exact z))
   obtain⟨p1,q1,hv1,_,_⟩:=bq hsr.ran;obtain⟨p3,q3,hv3,_,_⟩:=bq hur.ran;obtain⟨p4,q4,hv4,_,_⟩:=bq hur.cl;rw[c2] at hv1;rw[HX.out.2.1] at hv3;rw[HX.out.2.2.1] at hv4;subst hv1 hv3 hv4;have d0:w9.cell? ⟨rb1,0,none⟩=some (.slice p1 1 q1):=bZ hs;have d1:w9.cell? ⟨rb,0,none⟩=some (.slice p3 0 q3):=bZ hu;have d2:w9.cell? ⟨rb,1,none⟩=some (.slice p4 1 q4):=bZ hu;have z2:=HX.out.1;clear Hu hs hsr hu hur ahD HR sZ HX c2 c3 c4 b5;generalize Q.1.1=y2 at*;generalize Q1.1.1=y1 at*;subst c1 z2
   go_wp2
   go_ret;exact⟨rfl,Pt.out⟩
theorem ZY(a:Nat->Addr)(t:Nat->ah)(ao:Option Addr)(n cap:Nat)(w:aj)(hs:qF w ao n)(h:Ew a t w):
  Calls Tryz.prog 10 #[.slice ao n cap] w fun e w'=>e=.returned (.bool true)/\aQ (fun k=>w.heap.size<=k) w w':=Wt a t ao n cap w hs h (fun w' h'=>Wp a t w' h')
