import Derived.Test.YthhbpebihgjpjaaGreatDoorZ25
import Derived.Test.YthhbpebihgjpjaaGreatDoorZ26
import Derived.Test.YthhbpebihgjpjaaGreatDoorZ28
namespace Go.Proofs.YthhbpebihgjpjaaGreatDoor
set_option maxRecDepth 1000000
set_option maxHeartbeats 20000000
set_option linter.all false
section
open Go.RowKit Go.MuLone Go.Maps
def jc(A:Nat->Nat)(id c fb:Nat)(d:dQ)(r:bS)(w:aj):Prop:=
 ∃nb sb n m sv S,bC w fb d 0 nb sb sv/\dw w nb n r.seen/\dw w sb m r.safe/\uS sv S w/\S.length=r.wait.length/\
  (∀j k,S[j]?=some k->kH fb (iw r.wait j) w k/\∀b,lM k b->A b=0)/\n<=c/\m+r.wait.length<=c/\
  (fb≠nb/\fb≠sb/\nb≠sb/\sv.ownBlock≠some fb/\sv.ownBlock≠some nb/\sv.ownBlock≠some sb)/\
  (A fb=id/\A nb=id/\A sb=id/\∀k,sv.ownBlock=some k->A k=id)/\14<=fb
variable {A A':Nat->Nat}{id c c' fb:Nat}{d:dQ}{r:bS}{w w':aj}
theorem jc.keep(h:jc A id c fb d r w)(hc:c<=c')(hA:∀k,k<w.heap.size->A' k=A k)(hb:∀k,k<w.heap.size->(A k=id\/A k=0)->w'.heap[k]?=w.heap[k]?):jc A' id c' fb d r w':=by
 obtain⟨nb,sb,n,m,sv,S,h1,h2,h3,h4,h5,h6,h7,h8,h9,h10,h11⟩:=h;refine⟨nb,sb,n,m,sv,S,(hb fb h1.lt (aG h10.1)).trans h1,h2.keep (hb nb h2.lt (aG h10.2.1)),h3.keep (hb sb h3.lt (aG h10.2.2.1)),h4.keep (fun k hk=>hb k (h4.lt k hk) (aG (h10.2.2.2 k hk))),h5,fun j k hk=>?_,by omega,by omega,h9,⟨by rw[hA _ h1.lt];exact h10.1,by rw[hA _ h2.lt];exact h10.2.1,by rw[hA _ h3.lt];exact h10.2.2.1,fun k hk=>by rw[hA _ (h4.lt k hk)];exact h10.2.2.2 k hk⟩,h11⟩;obtain⟨a,b⟩:=h6 j k hk;exact⟨a.keep (fun x hx=>hb x (a.box_lt x hx) (aL (b x hx))),fun x hx=>by rw[hA _ (a.box_lt x hx)];exact b x hx⟩
structure vL(A:Nat->Nat)(a:Nat->Addr)(t:Nat->ah)(w:aj):Prop where
 pO:uN a t w
 zero:∀k,k<14->A k=0
 errs:∀k,k<9->A (a k).block=0
 glob:14<=w.heap.size
variable {a:Nat->Addr}{t:Nat->ah}
theorem uN.keep(h:uN a t w)(hg:∀k,k<14->w'.heap[k]?=w.heap[k]?)(he:∀k,k<9->w'.heap[(a k).block]?=w.heap[(a k).block]?):uN a t w' where
 cell k hk:=by rw[aB (w:=w) (hg _ (by simp only;omega))];exact h.cell k hk
 row k hk:=by rw[he k hk];exact h.row k hk
 text k hk:=by rw[aB (w:=w) (he k hk)];exact h.text k hk
 full:=h.full
 short:=h.short
 ne:=h.ne
 handle:=by rw[aB (w:=w) (hg _ (by decide))];exact h.handle
theorem vL.keep(h:vL A a t w)(hs:w.heap.size<=w'.heap.size)(hA:∀k,k<w.heap.size->A' k=A k)(hb:∀k,k<w.heap.size->A k=0->w'.heap[k]?=w.heap[k]?):vL A' a t w' where
 pO:=h.pO.keep (fun k hk=>hb k (ay hk h.glob) (h.zero k hk)) (fun k hk=>hb _ (iI (h.pO.text k hk)) (h.errs k hk))
 zero k hk:=by rw[hA k (ay hk h.glob)];exact h.zero k hk
 errs k hk:=by rw[hA _ (iI (h.pO.text k hk))];exact h.errs k hk
 glob:=aA h.glob hs
def jS(a:Nat->Addr)(k:Nat):Value:=.iface 472 (.pointer (some (a k)))
theorem vL.Gm(h:vL A a t w):Jv w (jS a 0) (jS a 1) (jS a 2) (jS a 3):=
 ⟨h.pO.cell 0 (by decide),h.pO.cell 1 (by decide),h.pO.cell 2 (by decide),h.pO.cell 3 (by decide)⟩
def rE(a:Nat->Addr)(v:Value)(n:Int):Prop:=(v=.nilIface/\n=0)\/∃k:Nat,k<9/\v=jS a k/\n=(k:Int)+1
theorem WO(w:aj):Calls Tryz.prog 43 #[.nilIface] w fun e w'=>e=.returned (.tuple #[.int .i64 0,.int .i64 (-1)])/\Below w.heap.size w w':=by
 have HB:Hid (Below w.heap.size w w):=au _ _
 go_enter Tryz.func43,Tryz.ntmps43
 go_wp2
 go_ret2;exact⟨rfl,HB.out⟩
theorem Cx{v:Value}{n:Int}(h:rE a v n)(w:aj)(hS:uN a t w):Calls Tryz.prog 43 #[v] w fun e w'=>e=.returned (.tuple #[.int .i64 n,.int .i64 (-1)])/\Below w.heap.size w w':=by
 rcases h with ⟨rfl,rfl⟩|⟨k,hk,rfl,rfl⟩
 ·exact WO w
 exact TI a t k hk w hS
theorem FZ(A:Nat->Nat)(B id:Nat)(F:Nat->Prop):∃A':Nat->Nat,(∀b,b<B->A' b=A b)/\(∀b,B<=b->F b->A' b=id)/\(∀b,B<=b->¬F b->A' b=0):=by
 classical
 refine⟨fun b=>if b<B then A b else if F b then id else 0,fun b hb=>?_,fun b hb hf=>?_,fun b hb hf=>?_⟩
 ·simp only;rw[aD hb]
 ·simp only;rw[ax (by omega),aD hf]
 simp only;rw[ax (by omega),ax hf]
def Da(A:Nat->Nat)(a:Nat->Addr)(id c fb:Nat)(q:Int×bS)(w:aj)(e:Ending)(w':aj):Prop:=
 ∃v d' A',e=.returned v/\rE a v q.1/\jc A' id (c+1) fb d' q.2 w'/\rV (c+1) q.2 d'/\(∀k,k<w.heap.size->A' k=A k)/\aQ (fun k=>A k=id) w w'
variable {nb sb:Nat}{sv:Value}{q:Int×bS}
theorem Fp{n m:Nat}{S:List jv}{o:lu}{no:Option Value}{e:Ending}
  (hid:id≠0) (hI:rV c r d) (h1:bC w fb d 0 nb sb sv) (h2:dw w nb n r.seen) (h3:dw w sb m r.safe) (h5:S.length=r.wait.length)
  (h6:∀j k,S[j]?=some k->kH fb (iw r.wait j) w k/\∀b,lM k b->A b=0) (h7:n<=c) (h8:m+r.wait.length<=c)
  (h9:fb≠nb/\fb≠sb/\nb≠sb/\sv.ownBlock≠some fb/\sv.ownBlock≠some nb/\sv.ownBlock≠some sb) (h10:A fb=id/\A nb=id/\A sb=id/\∀k,sv.ownBlock=some k->A k=id) (h11:14<=fb)
  (hno:(∃v,no=some v/\rE a v q.1/\q.2=r)\/(no=none/\q=Vf r o/\JI r.seen o/\totalBytes (fe r.seen o)<=65536))
  (hp:FV no (jS a 3) r.seen o S d fb nb sb n sv w e w'):Da A a id c fb q w e w':=by
 obtain⟨ht,hp⟩:=hp
 have hF:∀k,(k=fb\/k=nb\/sv.ownBlock=some k)->A k=id:=by
  rintro k (e|e|e)
  ·rw[e];exact h10.1
  ·rw[e];exact h10.2.1
  exact h10.2.2.2 k e
 have hT:aQ (fun k=>A k=id) w w':=ht.mono hF
 have hsb:w'.heap[sb]?=w.heap[sb]?:=ht.block sb h3.lt (by
  rintro (e|e|e)
  ·exact h9.2.1 e.symm
  ·exact h9.2.2.1 e.symm
  exact h9.2.2.2.2.2 e)
 have htie:∀j k,S[j]?=some k->kH fb (iw r.wait j) w' k/\∀b,lM k b->A b=0:=fun j k hk=>by
  obtain⟨x,y⟩:=h6 j k hk;exact⟨x.keep (fun b hb=>ht.block b (x.box_lt b hb) (fun e=>hid ((hF b e).symm.trans (y b hb)))),y⟩
 rcases hp with ⟨v,hv,rfl,hr,hm,ho⟩|⟨hn,hd,rfl,hr,hm,ho⟩|⟨hn,hd,rfl,sv',k,hr,hm,ho,hk,hx,hl⟩
 ·rcases hno with ⟨v',hv',jD,hq⟩|⟨hv',_⟩
  ·obtain rfl:v=v':=ak (hv.symm.trans hv');exact⟨v,d,A,rfl,jD,by rw[hq];exact⟨nb,sb,n,m,sv,S,hr,hm,h3.keep hsb,ho,h5,htie,by omega,by omega,h9,h10,h11⟩,by rw[hq];exact hI.later (fB c),fun _ _=>rfl,hT⟩
  rw[hv] at hv';cases hv'
 ·rcases hno with ⟨v',hv',_⟩|⟨_,hq,hw,htot⟩
  ·rw[hn] at hv';cases hv'
  rcases hI.do o hw htot with ⟨_,e2,hI2⟩|⟨e1,_⟩
  ·rw[hq,e2];exact⟨jS a 3,gQ d,A,rfl,aL ⟨3,by decide,rfl,rfl⟩,⟨nb,sb,n,m,sv,S,hr,by rw[sP];exact hm,by rw[xE];exact h3.keep hsb,ho,by rw[kK];exact h5,by rw[kK];exact htie,by omega,by rw[kK];omega,h9,h10,h11⟩,hI2,fun _ _=>rfl,hT⟩
  rw[hd] at e1;cases e1
 rcases hno with ⟨v',hv',_⟩|⟨_,hq,hw,htot⟩
 ·rw[hn] at hv';cases hv'
 rcases hI.do o hw htot with ⟨e1,_⟩|⟨_,e2,e3,e4,e5,hI2⟩
 ·rw[hd] at e1;cases e1
 rw[hq];have hlt:∀k,sv'.ownBlock=some k->sv.ownBlock=some k\/w.heap.size<=k:=hl;obtain⟨A',a1,a2,a3⟩:=FZ A w.heap.size id (fun b=>sv'.ownBlock=some b);refine⟨.nilIface,gQ d,A',rfl,aG ⟨rfl,e2⟩,⟨nb,sb,n+1,m,sv',S++[k],hr,by rw[e3];exact hm,by rw[e5];exact h3.keep hsb,ho,by rw[e4];simp[h5],?_,by omega,by rw[e4];simp;omega,⟨h9.1,h9.2.1,h9.2.2.1,?_,?_,?_⟩,⟨by rw[a1 _ h1.lt];exact h10.1,by rw[a1 _ h2.lt];exact h10.2.1,by rw[a1 _ h3.lt];exact h10.2.2.1,?_⟩,h11⟩,hI2,a1,hT⟩
 ·intro j y hy;rw[e4]
  rcases bR j S.length with c1|c1
  ·rw[bQ c1] at hy;obtain⟨x1,x2⟩:=htie j y hy
   have:iw (r.wait++[o]) j=iw r.wait j:=by rw[iw,iw,bQ (by omega)]
   rw[this];refine⟨x1,fun b hb=>?_⟩;rw[a1 _ ((h6 j y hy).1.box_lt b hb)];exact x2 b hb
  have hj:j=S.length:=by
   have:=(aJ.1 hy).1
   simp at this;omega
  subst hj
  have hyk:k=y:=by simpa using hy
  subst hyk
  have:iw (r.wait++[o]) S.length=o:=by rw[iw,h5];simp
  rw[this];refine⟨hk,fun b hb=>?_⟩;have:=hx b hb;exact a3 b this.1 this.2
 ·intro e;rcases hlt _ e with x|x
  ·exact h9.2.2.2.1 x
  have:=h1.lt;omega
 ·intro e;rcases hlt _ e with x|x
  ·exact h9.2.2.2.2.1 x
  have:=h2.lt;omega
 ·intro e;rcases hlt _ e with x|x
  ·exact h9.2.2.2.2.2 x
  have:=h3.lt;omega
 intro b hb
 by_cases c1:b<w.heap.size
 ·rw[a1 b c1]
  rcases hlt b hb with x|x
  ·exact h10.2.2.2 b x
  omega
 exact a2 b (by omega) hb
theorem Oz(r:bS)(n:Int):Oy r n=decide (r.room<n+(totalBytes r.seen:Int)):=by rw[Oy,LZ]
theorem BQ{t:ah}(h:eD t=true):t.size<=32:=(fC h).2.1
def RG(A:Nat->Nat)(id c fb:Nat)(q:Int×bS)(w:aj)(e:Ending)(w':aj):Prop:=
 ∃d' A',e=.returned (.int .i64 q.1)/\jc A' id (c+1) fb d' q.2 w'/\rV (c+1) q.2 d'/\(∀k,k<w.heap.size->A' k=A k)/\aQ (fun k=>A k=id) w w'
variable {d':dQ}
theorem Da.told{w1 w2:aj}(hp:jc A' id (c+1) fb d' q.2 w1)(hI:rV (c+1) q.2 d')(hA:∀k,k<w.heap.size->A' k=A k)(ht:aQ (fun k=>A k=id) w w1)(hb:Below w1.heap.size w1 w2):RG A id c fb q w (.returned (.int .i64 q.1)) w2:=
 ⟨d',A',rfl,hp.keep (ai _) (fun _ _=>rfl) (fun k hk _=>hb.block k hk),hI,hA,ht.trans (aQ.of_below (fun _=>False) hb) (fun _ h=>h.elim)⟩
theorem Ld(hid:id≠0)(he:vL A a t w)(hp:jc A id c fb d r w)(hI:rV c r d)(hc:c<1099511627776)(name data:ah)(hn:name.size<=140737488351232)(hd:data.size<=140737488351232):
  Calls Tryz.prog 49 #[.pointer (some ⟨fb,0,none⟩),.string name,.string data] w (Da A a id c fb (eu r name data) w):=by
 obtain⟨nb,sb,n,m,sv,S,h1,h2,h3,h4,h5,h6,h7,h8,h9,h10,h11⟩:=hp;have htot:=hI.total;have hdo:=pQ r.seen name;refine(Nl name data (aA hn (by decide)) hd r.seen hI.sorted.distinct (by omega) (by omega) S (jS a 0) (jS a 1) (jS a 2) (jS a 3) d fb nb sb n sv w ⟨h1,h2,h4,he.Gm,he.glob⟩ (by unfold maxLen;omega) hI.Kq (by rw[hI.room];exact hI.hi) (pQ _ _) (by rw[h5];have:=hI.count;omega) h11 ⟨h9.2.2.2.1,h9.2.2.2.2.1,h9.1⟩).mono (fun e w' hpost=>Fp hid hI h1 h2 h3 h5 h6 h7 h8 h9 h10 h11 ?_ hpost);rw[eu,yS,Oz,hI.room]
 by_cases hnm:eD name=true
 ·rw[aD hnm,ax (show¬eD name=false by simp[hnm])]
  by_cases hmr:r.room<(totalBytes r.seen:Int)-((fO r.seen name).size:Int)+(data.size:Int)
  ·rw[aD hmr,aD (show decide (r.room<(data.size:Int)-((fO r.seen name).size:Int)+(totalBytes r.seen:Int))=true by simp;omega)];exact aG ⟨_,rfl,aL ⟨2,by decide,rfl,rfl⟩,rfl⟩
  rw[ax hmr,ax (show¬decide (r.room<(data.size:Int)-((fO r.seen name).size:Int)+(totalBytes r.seen:Int))=true by simp;omega)];have hput:=vz r.seen hI.sorted.distinct name data;have hhi:=hI.hi;refine aL ⟨rfl,rfl,⟨⟨ai _,by simp⟩,fun h=>by simp at h,by simp only;omega,BQ hnm⟩,?_⟩;rw[fe,aD rfl]
  simp only
  omega
 rw[ax hnm,aD (show eD name=false by simpa using hnm)];exact aG ⟨_,rfl,aL ⟨0,by decide,rfl,rfl⟩,rfl⟩
theorem TP(hid:id≠0)(he:vL A a t w)(hp:jc A id c fb d r w)(hI:rV c r d)(hc:c<1099511627776)(name data:ah)(hn:name.size<=140737488351232)(hd:data.size<=140737488351232):
  Calls Tryz.prog 229 #[.pointer (some ⟨fb,0,none⟩),.string name,.string data] w (Da A a id c fb (kM r name data) w):=by
 obtain⟨nb,sb,n,m,sv,S,h1,h2,h3,h4,h5,h6,h7,h8,h9,h10,h11⟩:=hp;have htot:=hI.total;have hdo:=pQ r.seen name;refine(Ll name data (aA hn (by decide)) hd r.seen hI.sorted.distinct (by omega) (by omega) S (jS a 0) (jS a 1) (jS a 2) (jS a 3) d fb nb sb n sv w ⟨h1,h2,h4,he.Gm,he.glob⟩ (by unfold maxLen;omega) hI.Kq (by rw[hI.room];exact hI.hi) (by rw[h5];have:=hI.count;omega) h11 ⟨h9.2.2.2.1,h9.2.2.2.2.1,h9.1⟩).mono (fun e w' hpost=>Fp hid hI h1 h2 h3 h5 h6 h7 h8 h9 h10 h11 ?_ hpost);rw[kM,vS,Oz,hI.room]
 by_cases hnm:eD name=true
 ·rw[aD hnm,ax (show¬eD name=false by simp[hnm])]
  by_cases hmr:r.room<(totalBytes r.seen:Int)+(data.size:Int)
  ·rw[aD hmr,aD (show decide (r.room<(data.size:Int)+(totalBytes r.seen:Int))=true by simp;omega)];exact aG ⟨_,rfl,aL ⟨2,by decide,rfl,rfl⟩,rfl⟩
  rw[ax hmr,ax (show¬decide (r.room<(data.size:Int)+(totalBytes r.seen:Int))=true by simp;omega)];have hput:=vz r.seen hI.sorted.distinct name (fO r.seen name++data);have hhi:=hI.hi;rw[aH] at hput;refine aL ⟨rfl,rfl,⟨⟨by simp,by simp⟩,fun h=>by simp at h,by simp only;omega,BQ hnm⟩,?_⟩;rw[fe,ax (by simp),aD rfl]
  simp only
  omega
 rw[ax hnm,aD (show eD name=false by simpa using hnm)];exact aG ⟨_,rfl,aL ⟨0,by decide,rfl,rfl⟩,rfl⟩
theorem TS(hid:id≠0)(he:vL A a t w)(hp:jc A id c fb d r w)(hI:rV c r d)(hc:c<1099511627776)(name:ah)(hn:name.size<=140737488351232):
  Calls Tryz.prog 78 #[.pointer (some ⟨fb,0,none⟩),.string name] w (Da A a id c fb (sV r name) w):=by
 obtain⟨nb,sb,n,m,sv,S,h1,h2,h3,h4,h5,h6,h7,h8,h9,h10,h11⟩:=hp;have htot:=hI.total;have hdo:=pQ r.seen name;refine(Lm name (aA hn (by decide)) r.seen (by omega) S (jS a 0) (jS a 1) (jS a 2) (jS a 3) d fb nb sb n sv w ⟨h1,h2,h4,he.Gm,he.glob⟩ (by unfold maxLen;omega) hI.Kq (by rw[h5];have:=hI.count;omega) h11 ⟨h9.2.2.2.1,h9.2.2.2.2.1,h9.1⟩).mono (fun e w' hpost=>Fp hid hI h1 h2 h3 h5 h6 h7 h8 h9 h10 h11 ?_ hpost);rw[sV,vY]
 by_cases hnm:eD name=true
 ·rw[aD hnm,ax (show¬eD name=false by simp[hnm])]
  by_cases hps:iQ r.seen name=-1
  ·rw[aD hps,aD hps];exact aG ⟨_,rfl,aL ⟨1,by decide,rfl,rfl⟩,rfl⟩
  rw[ax hps,ax hps];have hw:=Du r.seen hI.sorted.distinct name;refine aL ⟨rfl,rfl,⟨⟨by simp,by simp⟩,fun h=>by simp at h,aN _,BQ hnm⟩,?_⟩;rw[fe,ax (by simp),ax (by simp),ax (by simp)]
  simp only
  omega
 rw[ax hnm,aD (show eD name=false by simpa using hnm)];exact aG ⟨_,rfl,aL ⟨0,by decide,rfl,rfl⟩,rfl⟩
theorem TU(hid:id≠0)(he:vL A a t w)(hp:jc A id c fb d r w)(hI:rV c r d)(hc:c<1099511627776)(frm tnm:ah)(hn:frm.size<=140737488351232):
  Calls Tryz.prog 174 #[.pointer (some ⟨fb,0,none⟩),.string frm,.string tnm] w (Da A a id c fb (jW r frm tnm) w):=by
 obtain⟨nb,sb,n,m,sv,S,h1,h2,h3,h4,h5,h6,h7,h8,h9,h10,h11⟩:=hp;have htot:=hI.total;have hdo:=pQ r.seen frm;refine(Lp frm tnm (aA hn (by decide)) r.seen (by omega) S (jS a 0) (jS a 1) (jS a 2) (jS a 3) d fb nb sb n sv w ⟨h1,h2,h4,he.Gm,he.glob⟩ (by unfold maxLen;omega) hI.Kq (by rw[h5];have:=hI.count;omega) h11 ⟨h9.2.2.2.1,h9.2.2.2.2.1,h9.1⟩).mono (fun e w' hpost=>Fp hid hI h1 h2 h3 h5 h6 h7 h8 h9 h10 h11 ?_ hpost);rw[jW,rP]
 by_cases hnm:eD frm=true/\eD tnm=true
 ·rw[aD hnm,ax (show¬(eD frm=false\/eD tnm=false) by simp[hnm.1,hnm.2])]
  by_cases hps:iQ r.seen frm=-1
  ·rw[aD hps,aD hps];exact aG ⟨_,rfl,aL ⟨1,by decide,rfl,rfl⟩,rfl⟩
  rw[ax hps,ax hps];have hw:=Du r.seen hI.sorted.distinct frm;have hput:=vz (iJ r.seen frm) (hI.sorted.without frm).distinct tnm (fO r.seen frm);have hsz:=BQ hnm.2;refine aL ⟨rfl,rfl,⟨⟨by simp,by simp⟩,fun _=>hps,by simp only;omega,BQ hnm.1⟩,?_⟩;rw[fe,ax (by simp),ax (by simp),aD rfl]
  simp only
  omega
 have hor:eD frm=false\/eD tnm=false:=by
  by_cases h1:eD frm=true
  ·right
   have:¬eD tnm=true:=fun h2=>hnm ⟨h1,h2⟩
   simpa using this
  left;simpa using h1
 rw[ax hnm,aD hor];exact aG ⟨_,rfl,aL ⟨0,by decide,rfl,rfl⟩,rfl⟩
theorem ZO(hid:id≠0)(he:vL A a t w)(hp:jc A id c fb d r w)(hI:rV c r d):
  Calls Tryz.prog 173 #[.pointer (some ⟨fb,0,none⟩)] w (Da A a id c fb (iR r) w):=by
 obtain⟨nb,sb,n,m,sv,S,h1,h2,h3,h4,h5,h6,h7,h8,h9,h10,h11⟩:=hp;refine(QS r.seen (jS a 3) d fb nb sb n sv w h1 h2 (fun e=>h9.1 e.symm) hI.Kq he.Gm.down (by omega)).mono ?_;rintro e w' ⟨hm,ht,hcase⟩;have hT:aQ (fun k=>A k=id) w w':=ht.mono (fun k hk=>by rw[hk];exact h10.1)
 rcases hcase with ⟨hd,rfl,hr⟩|⟨hd,rfl,z,hz,hr,hmz⟩
 ·rcases hI.sync with ⟨_,e2,hI2⟩|⟨e1,_⟩
  ·rw[e2]
   have hkeep:∀k,k<w.heap.size->k≠fb->w'.heap[k]?=w.heap[k]?:=fun k hk hne=>ht.block k hk hne
   refine⟨jS a 3,gQ d,A,rfl,aL ⟨3,by decide,rfl,rfl⟩,⟨nb,sb,n,m,sv,S,hr,by rw[sP];exact hm,by rw[xE];exact h3.keep (hkeep sb h3.lt (fun e=>h9.2.1 e.symm)),h4.keep (fun k hk=>hkeep k (h4.lt k hk) (fun e=>h9.2.2.2.1 (by rw[hk,e]))),by rw[kK];exact h5,?_,by omega,by rw[kK];omega,h9,h10,h11⟩,hI2,fun _ _=>rfl,hT⟩;rw[kK];intro j k hk;obtain⟨x,y⟩:=h6 j k hk;exact⟨x.keep (fun b hb=>hkeep b (x.box_lt b hb) (fun e=>hid (by rw[<-h10.1,<-e];exact y b hb))),y⟩
  rw[hd] at e1;cases e1
 rcases hI.sync with ⟨e1,_⟩|⟨_,e2,e3,e4,e5,hI2⟩
 ·rw[hd] at e1;cases e1
 obtain⟨A',a1,a2,a3⟩:=FZ A w.heap.size id (fun b=>b=z);refine⟨.nilIface,gQ d,A',rfl,aG ⟨rfl,e2⟩,⟨nb,z,n,n,.slice none 0 0,[],hr,by rw[e3];exact hm,by rw[e4];exact hmz,⟨⟨rfl,aG ⟨rfl,rfl⟩⟩⟩,by rw[e5];rfl,fun j k hk=>by simp at hk,by omega,by rw[e5];simp;omega,⟨h9.1,?_,?_,by simp[Value.ownBlock],by simp[Value.ownBlock],by simp[Value.ownBlock]⟩,⟨by rw[a1 _ h1.lt];exact h10.1,by rw[a1 _ h2.lt];exact h10.2.1,a2 z hz rfl,fun k hk=>by simp[Value.ownBlock] at hk⟩,h11⟩,hI2,a1,hT⟩
 ·have:=h1.lt;omega
 have:=h2.lt;omega
def XJ(A:Nat->Nat)(id c fb:Nat)(q:bS)(w:aj)(e:Ending)(w':aj):Prop:=
 ∃d' A',e=.returned (.tuple #[])/\jc A' id (c+1) fb d' q w'/\rV (c+1) q d'/\(∀k,k<w.heap.size->A' k=A k)/\aQ (fun k=>A k=id) w w'
theorem jc.row{r':bS}(hid:id≠0)(h:jc A id c fb d r w)(hc:c<=c')(hs:r'.safe=r.safe/\r'.seen=r.seen/\r'.wait=r.wait)(ht:aQ (fun k=>k=fb) w w')(hrow:∀nb sb sv,bC w fb d 0 nb sb sv->bC w' fb d' 0 nb sb sv):jc A id c' fb d' r' w'/\aQ (fun k=>A k=id) w w':=by
 obtain⟨nb,sb,n,m,sv,S,h1,h2,h3,h4,h5,h6,h7,h8,h9,h10,h11⟩:=h
 have hk:∀k,k<w.heap.size->k≠fb->w'.heap[k]?=w.heap[k]?:=fun k hk hne=>ht.block k hk hne
 refine⟨⟨nb,sb,n,m,sv,S,hrow _ _ _ h1,by rw[hs.2.1];exact h2.keep (hk nb h2.lt (fun e=>h9.1 e.symm)),by rw[hs.1];exact h3.keep (hk sb h3.lt (fun e=>h9.2.1 e.symm)),h4.keep (fun k q=>hk k (h4.lt k q) (fun e=>h9.2.2.2.1 (by rw[q,e]))),by rw[hs.2.2];exact h5,?_,by omega,by rw[hs.2.2];omega,h9,h10,h11⟩,ht.mono (fun k e=>by rw[e];exact h10.1)⟩;rw[hs.2.2];intro j k q;obtain⟨x,y⟩:=h6 j k q;exact⟨x.keep (fun b hb=>hk b (x.box_lt b hb) (fun e=>hid (by rw[<-h10.1,<-e];exact y b hb))),y⟩
theorem bC.same{lk:Int}{nb' sb':Nat}{sv':Value}(h:bC w fb d lk nb sb sv)(h':bC w fb d lk nb' sb' sv'):nb=nb'/\sb=sb'/\sv=sv':=by
 have e:=h.symm.trans h';injection e with e;injection e with e;have e3:=gW (fun x=>x[3]?) e;have e4:=gW (fun x=>x[4]?) e;have e5:=gW (fun x=>x[5]?) e
 simp[dQ.row] at e3 e4 e5
 exact⟨e3,e4,e5⟩
theorem ZM(hid:id≠0)(hp:jc A id c fb d r w)(hI:rV c r d)(n:Int)(hn:n<=9223372036854775807):
  Calls Tryz.prog 52 #[.pointer (some ⟨fb,0,none⟩),.int .i64 n] w (XJ A id c fb {r with lit:=decide (0<n),left:=n} w):=by
 obtain⟨nb,sb,_,_,sv,_,h1,_⟩:=(show _ from hp);refine(QM n d fb nb sb sv w h1).mono ?_;rintro e w' ⟨rfl,hr,ht⟩
 have hx:=hp.row (r':={r with lit:=decide (0<n),left:=n}) (d':={d with fuse:=max n 0}) (c':=c+1) hid (fB c) ⟨rfl,rfl,rfl⟩ ht (fun nb' sb' sv' h'=>by
  obtain⟨e1,e2,e3⟩:=bC.same h1 h'
  subst e1 e2 e3;exact hr)
 exact⟨_,A,rfl,hx.1,(hI.setFuse n hn).later (fB c),fun _ _=>rfl,hx.2⟩
theorem ZN(hid:id≠0)(hp:jc A id c fb d r w)(hI:rV c r d)(n:Int):
  Calls Tryz.prog 41 #[.pointer (some ⟨fb,0,none⟩),.int .i64 n] w (XJ A id c fb {r with room:=min (max n 0) 65536} w):=by
 obtain⟨nb,sb,_,_,sv,_,h1,_⟩:=(show _ from hp);refine(QO n d fb nb sb sv w h1).mono ?_;rintro e w' ⟨rfl,hr,ht⟩
 have hx:=hp.row (r':={r with room:=min (max n 0) 65536}) (d':={d with room:=min (max n 0) 65536}) (c':=c+1) hid (fB c) ⟨rfl,rfl,rfl⟩ ht (fun nb' sb' sv' h'=>by
  obtain⟨e1,e2,e3⟩:=bC.same h1 h'
  subst e1 e2 e3;exact hr)
 exact⟨_,A,rfl,hx.1,(hI.setRoom n).later (fB c),fun _ _=>rfl,hx.2⟩
theorem WY(hid:id≠0)(hp:jc A id c fb d r w)(hI:rV c r d)(hc:c<1099511627776)(keep cut:Int):
  Calls Tryz.prog 40 #[.pointer (some ⟨fb,0,none⟩),.int .i64 keep,.int .i64 cut] w (XJ A id c fb (BK r keep cut) w):=by
 obtain⟨nb,sb,n,m,sv,S,h1,h2,h3,h4,h5,h6,h7,h8,h9,h10,h11⟩:=hp;refine(Nj keep cut d fb nb sb m sv S r w h1 h3 h4 ⟨h9.2.2.2.1,fun e=>h9.2.1 e.symm⟩ h5 (by rw[h5];have:=hI.count;omega) (fun j k hk=>⟨(h6 j k hk).1,fun b hb e=>hid (by rw[<-h10.1,<-e];exact(h6 j k hk).2 b hb)⟩) hI.ops (fun j hj=>(hI.kept j hj).2) (by unfold maxLen;omega)).mono ?_;rintro e w' ⟨rfl,nb',sb',hr,hm1,hm2,ht,hn1,hn2,hne⟩;obtain⟨A',a1,a2,a3⟩:=FZ A w.heap.size id (fun b=>b=nb'\/b=sb');have hfb:=h1.lt;refine⟨{d with fuse:=0,down:=false},A',rfl,⟨nb',sb',m+r.wait.length,m+r.wait.length,.slice none 0 0,[],hr,hm1,hm2,⟨⟨rfl,aG ⟨rfl,rfl⟩⟩⟩,rfl,fun j k hk=>by simp at hk,by omega,by simp[BK];omega,⟨by omega,by omega,hne,by simp[Value.ownBlock],by simp[Value.ownBlock],by simp[Value.ownBlock]⟩,⟨by rw[a1 _ hfb];exact h10.1,a2 nb' hn1 (aG rfl),a2 sb' hn2 (aL rfl),fun k hk=>by simp[Value.ownBlock] at hk⟩,h11⟩,(hI.ahW keep cut).1.later (fB c),a1,ht.mono (fun k e=>by rw[e];exact h10.1)⟩
theorem TQ(A:Nat->Nat)(id c:Nat)(w:aj)(hg:14<=w.heap.size)(n:Int):
  Calls Tryz.prog 27 #[.int .i64 n] w fun e w'=>∃fb A',e=.returned (.pointer (some ⟨fb,0,none⟩))/\jc A' id c fb ⟨min (max n 0) 65536,0,false⟩ ⟨[],[],min (max n 0) 65536,[],0,false,false⟩ w'/\(∀k,k<w.heap.size->A' k=A k)/\w.heap.size<=fb/\Below w.heap.size w w':=by
 refine(Ue n w).mono ?_;rintro e w' ⟨fb,nb,sb,rfl,hr,hm1,hm2,l1,l2,l3,n1,n2,n3,hb⟩;obtain⟨A',a1,a2,a3⟩:=FZ A w.heap.size id (fun b=>b=fb\/b=nb\/b=sb);exact⟨fb,A',rfl,⟨nb,sb,0,0,.slice none 0 0,[],hr,hm1,hm2,⟨⟨rfl,aG ⟨rfl,rfl⟩⟩⟩,rfl,fun j k hk=>by simp at hk,aN _,aN _,⟨fun e=>n1 e.symm,fun e=>n2 e.symm,n3,by simp[Value.ownBlock],by simp[Value.ownBlock],by simp[Value.ownBlock]⟩,⟨a2 fb l1 (aG rfl),a2 nb l2 (aL (aG rfl)),a2 sb l3 (aL (aL rfl)),fun k hk=>by simp[Value.ownBlock] at hk⟩,aA hg l1⟩,a1,l1,hb⟩
theorem GA(hid:id≠0)(he:vL A a t w)(hp:jc A id c fb d r w)(name:ah)(hn:name.size<=140737488351232):
  Calls Tryz.prog 45 #[.pointer (some ⟨fb,0,none⟩),.string name] w fun e w'=>∃v,e=.returned (.tuple #[.string (uH r name).1,v])/\rE a v (uH r name).2/\jc A id c fb d r w'/\aQ (fun k=>A k=id) w w':=by
 obtain⟨nb,sb,n,m,sv,S,h1,h2,h3,h4,h5,h6,h7,h8,h9,h10,h11⟩:=(show _ from hp);refine(QN name (aA hn (by decide)) r.seen (jS a 1) d fb nb sb n sv w h1 h2 (fun e=>h9.1 e.symm) he.Gm.gone (by omega)).mono ?_;rintro e w' ⟨rfl,hr,ht⟩
 have hx:=hp.row (r':=r) (d':=d) (c':=c) hid (ai _) ⟨rfl,rfl,rfl⟩ ht (fun nb' sb' sv' h'=>by
  obtain⟨e1,e2,e3⟩:=bC.same h1 h'
  subst e1 e2 e3;exact hr)
 by_cases hps:iQ r.seen name=-1
 ·refine⟨jS a 1,?_,?_,hx.1,hx.2⟩
  ·rw[Ik,ax (by simp[hps]),uH,aD hps]
  rw[uH,aD hps];exact aL ⟨1,by decide,rfl,rfl⟩
 refine⟨.nilIface,?_,?_,hx.1,hx.2⟩
 ·rw[Ik,aD (by simpa using hps),uH,ax hps]
 rw[uH,ax hps];exact aG ⟨rfl,rfl⟩
theorem WZ(hid:id≠0)(hp:jc A id c fb d r w)(hI:rV c r d)(hc:c<1099511627776):
  Calls Tryz.prog 44 #[.pointer (some ⟨fb,0,none⟩)] w fun e w'=>∃g,w.heap.size<=g/\e=.returned (.slice (some ⟨g,0,none⟩) r.seen.length r.seen.length)/\w'.ownsRow w.heap.size 9 1 (.slice (some ⟨g,0,none⟩) r.seen.length r.seen.length) r.seen.length ((rO r.seen).map encStr)/\jc A id c fb d r w'/\aQ (fun k=>A k=id) w w':=by
 obtain⟨nb,sb,n,m,sv,S,h1,h2,h3,h4,h5,h6,h7,h8,h9,h10,h11⟩:=(show _ from hp);refine(Nk r.seen hI.sorted d fb nb sb n sv w h1 h2 (by omega) (fun e=>h9.1 e.symm)).mono ?_;rintro e w' ⟨g,hg,rfl,hrow,hr,ht⟩
 have hx:=hp.row (r':=r) (d':=d) (c':=c) hid (ai _) ⟨rfl,rfl,rfl⟩ ht (fun nb' sb' sv' h'=>by
  obtain⟨e1,e2,e3⟩:=bC.same h1 h'
  subst e1 e2 e3;exact hr)
 exact⟨g,hg,rfl,hrow,hx.1,hx.2⟩
theorem Lg(hid:id≠0)(he:vL A a t w)(hp:jc A id c fb d r w)(hI:rV c r d)(hc:c<1099511627776)(name data:ah)(hn:name.size<=140737488351232)(hd:data.size<=140737488351232):
  Calls Tryz.prog 29 #[.pointer (some ⟨fb,0,none⟩),.string name,.string data] w (RG A id c fb (eu r name data) w):=by
 have HP:=aP (Ld hid he hp hI hc name data hn hd);have HE:=aP he;clear he hp hI
 go_enter Tryz.func29,Tryz.ntmps29
 go_wp2_with fail
 refine HP.out.mono ?_;rintro e w1 ⟨v,d',A',rfl,jD,hp1,hI1,hA1,ht1⟩;have FT:Hid (uN a t w1):=(HE.out.keep (A':=A') ht1.size hA1 (fun k hk h0=>ht1.block k hk (fun e=>hid (e.symm.trans h0)))).pO
 have HX:Hid (∀w2,Below w1.heap.size w1 w2->RG A id c fb (eu r name data) w (.returned (.int .i64 ((eu r name data)).1)) w2):=fun w2 hb=>Da.told hp1 hI1 hA1 ht1 hb
 have HN:=aP jD;clear jD hp1 hI1 hA1 ht1 HE HP;generalize ((eu r name data)).1=num at*
 go_wp2_with fail
 refine(Cx HN.out w1 FT.out).mono ?_;rintro e w2 ⟨rfl,hb2⟩;have HB2:=aP hb2;clear hb2
 go_wp2
 go_ret;exact HX.out w2 HB2.out
theorem IY(hid:id≠0)(he:vL A a t w)(hp:jc A id c fb d r w)(hI:rV c r d)(hc:c<1099511627776)(name:ah)(hn:name.size<=140737488351232):
  Calls Tryz.prog 51 #[.pointer (some ⟨fb,0,none⟩),.string name] w (RG A id c fb (sV r name) w):=by
 have HP:=aP (TS hid he hp hI hc name hn);have HE:=aP he;clear he hp hI
 go_enter Tryz.func51,Tryz.ntmps51
 go_wp2_with fail
 refine HP.out.mono ?_;rintro e w1 ⟨v,d',A',rfl,jD,hp1,hI1,hA1,ht1⟩;have FT:Hid (uN a t w1):=(HE.out.keep (A':=A') ht1.size hA1 (fun k hk h0=>ht1.block k hk (fun e=>hid (e.symm.trans h0)))).pO
 have HX:Hid (∀w2,Below w1.heap.size w1 w2->RG A id c fb (sV r name) w (.returned (.int .i64 ((sV r name)).1)) w2):=fun w2 hb=>Da.told hp1 hI1 hA1 ht1 hb
 have HN:=aP jD;clear jD hp1 hI1 hA1 ht1 HE HP;generalize ((sV r name)).1=num at*
 go_wp2_with fail
 refine(Cx HN.out w1 FT.out).mono ?_;rintro e w2 ⟨rfl,hb2⟩;have HB2:=aP hb2;clear hb2
 go_wp2
 go_ret;exact HX.out w2 HB2.out
theorem Ni(hid:id≠0)(he:vL A a t w)(hp:jc A id c fb d r w)(name:ah)(hn:name.size<=140737488351232):
  Calls Tryz.prog 21 #[.pointer (some ⟨fb,0,none⟩),.string name] w fun e w'=>e=.returned (.tuple #[.string (uH r name).1,.int .i64 (uH r name).2])/\jc A id c fb d r w'/\aQ (fun k=>A k=id) w w':=by
 have HP:=aP (GA hid he hp name hn);have HE:=aP he;clear he hp;generalize uH r name=q at HP⊢;obtain⟨txt,num⟩:=q;simp only at HP⊢
 go_enter Tryz.func21,Tryz.ntmps21
 go_wp2_with fail
 refine HP.out.mono ?_;rintro e w1 ⟨v,rfl,jD,hp1,ht1⟩;have FT:Hid (uN a t w1):=(HE.out.keep (A':=A) ht1.size (fun _ _=>rfl) (fun k hk h0=>ht1.block k hk (fun e=>hid (e.symm.trans h0)))).pO
 have HX:Hid (∀w2,Below w1.heap.size w1 w2->jc A id c fb d r w2/\aQ (fun k=>A k=id) w w2):=fun w2 hb=>⟨hp1.keep (ai _) (fun _ _=>rfl) (fun k hk _=>hb.block k hk),ht1.trans (aQ.of_below (fun _=>False) hb) (fun _ h=>h.elim)⟩
 have HN:=aP jD;clear jD hp1 ht1 HE HP
 go_wp2_with fail
 refine(Cx HN.out w1 FT.out).mono ?_;rintro e w2 ⟨rfl,hb2⟩;have HB2:=aP hb2;clear hb2
 go_wp2
 go_ret2;exact⟨rfl,HX.out w2 HB2.out⟩
