import Derived.Test.YthhbpebihgjpjaaGreatDoorZ25
import Derived.Test.YthhbpebihgjpjaaGreatDoorZ26
import Derived.Test.YthhbpebihgjpjaaGreatDoorZ28
namespace Go.Proofs.YthhbpebihgjpjaaGreatDoor
set_option maxRecDepth 1000000
set_option maxHeartbeats 20000000
set_option linter.all false
section
open Go.RowKit Go.MuLone Go.Maps
def jg(A:Nat->Nat)(id c fb:Nat)(d:dX)(r:bY)(w:ak):Prop:=
 ∃nb sb n m sv S,bH w fb d 0 nb sb sv/\dF w nb n r.seen/\dF w sb m r.safe/\uU sv S w/\S.length=r.wait.length/\
  (∀j k,S[j]?=some k->kL fb (iD r.wait j) w k/\∀b,lT k b->A b=0)/\n<=c/\m+r.wait.length<=c/\
  (fb≠nb/\fb≠sb/\nb≠sb/\sv.ownBlock≠some fb/\sv.ownBlock≠some nb/\sv.ownBlock≠some sb)/\
  (A fb=id/\A nb=id/\A sb=id/\∀k,sv.ownBlock=some k->A k=id)/\14<=fb
variable {A A':Nat->Nat}{id c c' fb:Nat}{d:dX}{r:bY}{w w':ak}
theorem jg.keep(h:jg A id c fb d r w)(hc:c<=c')(hA:∀k,k<w.heap.size->A' k=A k)(hb:∀k,k<w.heap.size->(A k=id\/A k=0)->w'.heap[k]?=w.heap[k]?):jg A' id c' fb d r w':=by
 obtain⟨nb,sb,n,m,sv,S,h1,h2,h3,h4,h5,h6,h7,h8,h9,h10,h11⟩:=h;refine⟨nb,sb,n,m,sv,S,(hb fb h1.lt (aK h10.1)).trans h1,h2.keep (hb nb h2.lt (aK h10.2.1)),h3.keep (hb sb h3.lt (aK h10.2.2.1)),h4.keep (fun k hk=>hb k (h4.lt k hk) (aK (h10.2.2.2 k hk))),h5,fun j k hk=>?_,aJ,aJ,h9,⟨by rw[hA _ h1.lt];exact h10.1,by rw[hA _ h2.lt];exact h10.2.1,by rw[hA _ h3.lt];exact h10.2.2.1,fun k hk=>by rw[hA _ (h4.lt k hk)];exact h10.2.2.2 k hk⟩,h11⟩;obtain⟨a,b⟩:=h6 j k hk;exact⟨a.keep (fun x hx=>hb x (a.box_lt x hx) (aP (b x hx))),fun x hx=>by rw[hA _ (a.box_lt x hx)];exact b x hx⟩
structure vP(A:Nat->Nat)(a:Nat->Addr)(t:Nat->ah)(w:ak):Prop where
 pU:uR a t w
 zero:∀k,k<14->A k=0
 errs:∀k,k<9->A (a k).block=0
 glob:14<=w.heap.size
variable {a:Nat->Addr}{t:Nat->ah}
theorem uR.keep(h:uR a t w)(hg:∀k,k<14->w'.heap[k]?=w.heap[k]?)(he:∀k,k<9->w'.heap[(a k).block]?=w.heap[(a k).block]?):uR a t w' where
 cell k hk:=by rw[aF (w:=w) (hg _ (by simp only;omega))];exact h.cell k hk
 row k hk:=by rw[he k hk];exact h.row k hk
 text k hk:=by rw[aF (w:=w) (he k hk)];exact h.text k hk
 full:=h.full
 short:=h.short
 ne:=h.ne
 handle:=by rw[aF (w:=w) (hg _ bS)];exact h.handle
theorem vP.keep(h:vP A a t w)(hs:w.heap.size<=w'.heap.size)(hA:∀k,k<w.heap.size->A' k=A k)(hb:∀k,k<w.heap.size->A k=0->w'.heap[k]?=w.heap[k]?):vP A' a t w' where
 pU:=h.pU.keep (fun k hk=>hb k (aB hk h.glob) (h.zero k hk)) (fun k hk=>hb _ (iN (h.pU.text k hk)) (h.errs k hk))
 zero k hk:=by rw[hA k (aB hk h.glob)];exact h.zero k hk
 errs k hk:=by rw[hA _ (iN (h.pU.text k hk))];exact h.errs k hk
 glob:=aC h.glob hs
def jW(a:Nat->Addr)(k:Nat):Value:=.iface 472 (.pointer (some (a k)))
theorem vP.Gn(h:vP A a t w):Jy w (jW a 0) (jW a 1) (jW a 2) (jW a 3):=
 ⟨h.pU.cell 0 bS,h.pU.cell 1 bS,h.pU.cell 2 bS,h.pU.cell 3 bS⟩
def rJ(a:Nat->Addr)(v:Value)(n:Int):Prop:=(v=.nilIface/\n=0)\/∃k:Nat,k<9/\v=jW a k/\n=(k:Int)+1
theorem WR(w:ak):Calls Tryz.prog 43 #[.nilIface] w fun e w'=>e=.returned (.tuple #[.int .i64 0,.int .i64 (-1)])/\Below w.heap.size w w':=by
 have HB:Hid (Below w.heap.size w w):=ay _ _
 go_enter Tryz.func43,Tryz.ntmps43
 go_wp2
 go_ret2;exact⟨rfl,HB.out⟩
theorem Cz{v:Value}{n:Int}(h:rJ a v n)(w:ak)(hS:uR a t w):Calls Tryz.prog 43 #[v] w fun e w'=>e=.returned (.tuple #[.int .i64 n,.int .i64 (-1)])/\Below w.heap.size w w':=by
 rcases h with ⟨rfl,rfl⟩|⟨k,hk,rfl,rfl⟩
 ·exact WR w
 exact TM a t k hk w hS
theorem Ga(A:Nat->Nat)(B id:Nat)(F:Nat->Prop):∃A':Nat->Nat,(∀b,b<B->A' b=A b)/\(∀b,B<=b->F b->A' b=id)/\(∀b,B<=b->¬F b->A' b=0):=by
 classical
 refine⟨fun b=>if b<B then A b else if F b then id else 0,fun b hb=>?_,fun b hb hf=>?_,fun b hb hf=>?_⟩
 ·simp only;rw[aH hb]
 ·simp only;rw[aA aJ,aH hf]
 simp only;rw[aA aJ,aA hf]
def Db(A:Nat->Nat)(a:Nat->Addr)(id c fb:Nat)(q:Int×bY)(w:ak)(e:Ending)(w':ak):Prop:=
 ∃v d' A',e=.returned v/\rJ a v q.1/\jg A' id (c+1) fb d' q.2 w'/\rY (c+1) q.2 d'/\(∀k,k<w.heap.size->A' k=A k)/\aW (fun k=>A k=id) w w'
variable {nb sb:Nat}{sv:Value}{q:Int×bY}
theorem Fq{n m:Nat}{S:List jB}{o:lG}{no:Option Value}{e:Ending}
  (hid:id≠0) (hI:rY c r d) (h1:bH w fb d 0 nb sb sv) (h2:dF w nb n r.seen) (h3:dF w sb m r.safe) (h5:S.length=r.wait.length)
  (h6:∀j k,S[j]?=some k->kL fb (iD r.wait j) w k/\∀b,lT k b->A b=0) (h7:n<=c) (h8:m+r.wait.length<=c)
  (h9:fb≠nb/\fb≠sb/\nb≠sb/\sv.ownBlock≠some fb/\sv.ownBlock≠some nb/\sv.ownBlock≠some sb) (h10:A fb=id/\A nb=id/\A sb=id/\∀k,sv.ownBlock=some k->A k=id) (h11:14<=fb)
  (hno:(∃v,no=some v/\rJ a v q.1/\q.2=r)\/(no=none/\q=Vh r o/\JK r.seen o/\totalBytes (fC r.seen o)<=65536))
  (hp:FX no (jW a 3) r.seen o S d fb nb sb n sv w e w'):Db A a id c fb q w e w':=by
 obtain⟨ht,hp⟩:=hp
 have hF:∀k,(k=fb\/k=nb\/sv.ownBlock=some k)->A k=id:=by
  rintro k (e|e|e)
  ·rw[e];exact h10.1
  ·rw[e];exact h10.2.1
  exact h10.2.2.2 k e
 have hT:aW (fun k=>A k=id) w w':=ht.mono hF
 have hsb:w'.heap[sb]?=w.heap[sb]?:=ht.block sb h3.lt (by
  rintro (e|e|e)
  ·exact h9.2.1 e.symm
  ·exact h9.2.2.1 e.symm
  exact h9.2.2.2.2.2 e)
 have htie:∀j k,S[j]?=some k->kL fb (iD r.wait j) w' k/\∀b,lT k b->A b=0:=fun j k hk=>by
  obtain⟨x,y⟩:=h6 j k hk;exact⟨x.keep (fun b hb=>ht.block b (x.box_lt b hb) (fun e=>hid ((hF b e).symm.trans (y b hb)))),y⟩
 rcases hp with ⟨v,hv,rfl,hr,hm,ho⟩|⟨hn,hd,rfl,hr,hm,ho⟩|⟨hn,hd,rfl,sv',k,hr,hm,ho,hk,hx,hl⟩
 ·rcases hno with ⟨v',hv',jH,hq⟩|⟨hv',_⟩
  ·obtain rfl:v=v':=ax (hv.symm.trans hv');exact⟨v,d,A,rfl,jH,by rw[hq];exact⟨nb,sb,n,m,sv,S,hr,hm,h3.keep hsb,ho,h5,htie,aJ,aJ,h9,h10,h11⟩,by rw[hq];exact hI.later (fH c),fun _ _=>rfl,hT⟩
  rw[hv] at hv';cases hv'
 ·rcases hno with ⟨v',hv',_⟩|⟨_,hq,hw,htot⟩
  ·rw[hn] at hv';cases hv'
  rcases hI.do o hw htot with ⟨_,e2,hI2⟩|⟨e1,_⟩
  ·rw[hq,e2];exact⟨jW a 3,gY d,A,rfl,aP ⟨3,bS,rfl,rfl⟩,⟨nb,sb,n,m,sv,S,hr,by rw[sV];exact hm,by rw[xJ];exact h3.keep hsb,ho,by rw[kN];exact h5,by rw[kN];exact htie,aJ,by rw[kN];omega,h9,h10,h11⟩,hI2,fun _ _=>rfl,hT⟩
  rw[hd] at e1;cases e1
 rcases hno with ⟨v',hv',_⟩|⟨_,hq,hw,htot⟩
 ·rw[hn] at hv';cases hv'
 rcases hI.do o hw htot with ⟨e1,_⟩|⟨_,e2,e3,e4,e5,hI2⟩
 ·rw[hd] at e1;cases e1
 rw[hq];have hlt:∀k,sv'.ownBlock=some k->sv.ownBlock=some k\/w.heap.size<=k:=hl;obtain⟨A',a1,a2,a3⟩:=Ga A w.heap.size id (fun b=>sv'.ownBlock=some b);refine⟨.nilIface,gY d,A',rfl,aK ⟨rfl,e2⟩,⟨nb,sb,n+1,m,sv',S++[k],hr,by rw[e3];exact hm,by rw[e5];exact h3.keep hsb,ho,by rw[e4];simp[h5],?_,aJ,by rw[e4];simp;omega,⟨h9.1,h9.2.1,h9.2.2.1,?_,?_,?_⟩,⟨by rw[a1 _ h1.lt];exact h10.1,by rw[a1 _ h2.lt];exact h10.2.1,by rw[a1 _ h3.lt];exact h10.2.2.1,?_⟩,h11⟩,hI2,a1,hT⟩
 ·intro j y hy;rw[e4]
  rcases bX j S.length with c1|c1
  ·rw[bW c1] at hy;obtain⟨x1,x2⟩:=htie j y hy
   have:iD (r.wait++[o]) j=iD r.wait j:=by rw[iD,iD,bW aJ]
   rw[this];refine⟨x1,fun b hb=>?_⟩;rw[a1 _ ((h6 j y hy).1.box_lt b hb)];exact x2 b hb
  have hj:j=S.length:=by
   have:=(aN.1 hy).1
   simp at this;omega
  subst hj
  have hyk:k=y:=by simpa using hy
  subst hyk
  have:iD (r.wait++[o]) S.length=o:=by rw[iD,h5];simp
  rw[this];refine⟨hk,fun b hb=>?_⟩;have:=hx b hb;exact a3 b this.1 this.2
 ·intro e;rcases hlt _ e with x|x
  ·exact h9.2.2.2.1 x
  have:=h1.lt;omega
 ·intro e;rcases hlt _ e with x|x
  ·exact h9.2.2.2.2.1 x
  have:=h2.lt;omega
 ·intro e;rcases hlt _ e with x|x
  ·exact h9.2.2.2.2.2 x
  have:=h3.lt;omega
 intro b hb
 by_cases c1:b<w.heap.size
 ·rw[a1 b c1]
  rcases hlt b hb with x|x
  ·exact h10.2.2.2 b x
  omega
 exact a2 b aJ hb
theorem OB(r:bY)(n:Int):OA r n=decide (r.room<n+(totalBytes r.seen:Int)):=by rw[OA,LZ]
theorem BS{t:ah}(h:eU t=true):t.size<=32:=(fI h).2.1
def RJ(A:Nat->Nat)(id c fb:Nat)(q:Int×bY)(w:ak)(e:Ending)(w':ak):Prop:=
 ∃d' A',e=.returned (.int .i64 q.1)/\jg A' id (c+1) fb d' q.2 w'/\rY (c+1) q.2 d'/\(∀k,k<w.heap.size->A' k=A k)/\aW (fun k=>A k=id) w w'
variable {d':dX}
theorem Db.told{w1 w2:ak}(hp:jg A' id (c+1) fb d' q.2 w1)(hI:rY (c+1) q.2 d')(hA:∀k,k<w.heap.size->A' k=A k)(ht:aW (fun k=>A k=id) w w1)(hb:Below w1.heap.size w1 w2):RJ A id c fb q w (.returned (.int .i64 q.1)) w2:=
 ⟨d',A',rfl,hp.keep (ai _) (fun _ _=>rfl) (fun k hk _=>hb.block k hk),hI,hA,ht.trans (aW.of_below (fun _=>False) hb) (fun _ h=>h.elim)⟩
theorem Ld(hid:id≠0)(he:vP A a t w)(hp:jg A id c fb d r w)(hI:rY c r d)(hc:c<1099511627776)(name data:ah)(hn:name.size<=140737488351232)(hd:data.size<=140737488351232):
  Calls Tryz.prog 49 #[.pointer (some ⟨fb,0,none⟩),.string name,.string data] w (Db A a id c fb (eP r name data) w):=by
 obtain⟨nb,sb,n,m,sv,S,h1,h2,h3,h4,h5,h6,h7,h8,h9,h10,h11⟩:=hp;have htot:=hI.total;have hdo:=pV r.seen name;refine(Np name data (aC hn bS) hd r.seen hI.sorted.distinct aJ aJ S (jW a 0) (jW a 1) (jW a 2) (jW a 3) d fb nb sb n sv w ⟨h1,h2,h4,he.Gn,he.glob⟩ (by unfold maxLen;omega) hI.Kq (by rw[hI.room];exact hI.hi) (pV _ _) (by rw[h5];have:=hI.count;omega) h11 ⟨h9.2.2.2.1,h9.2.2.2.2.1,h9.1⟩).mono (fun e w' hpost=>Fq hid hI h1 h2 h3 h5 h6 h7 h8 h9 h10 h11 ?_ hpost);rw[eP,yU,OB,hI.room]
 by_cases hnm:eU name=true
 ·rw[aH hnm,aA (show¬eU name=false by simp[hnm])]
  by_cases hmr:r.room<(totalBytes r.seen:Int)-((fZ r.seen name).size:Int)+(data.size:Int)
  ·rw[aH hmr,aH (show decide (r.room<(data.size:Int)-((fZ r.seen name).size:Int)+(totalBytes r.seen:Int))=true by simp;omega)];exact aK ⟨_,rfl,aP ⟨2,bS,rfl,rfl⟩,rfl⟩
  rw[aA hmr,aA (show¬decide (r.room<(data.size:Int)-((fZ r.seen name).size:Int)+(totalBytes r.seen:Int))=true by simp;omega)];have hput:=vC r.seen hI.sorted.distinct name data;have hhi:=hI.hi;refine aP ⟨rfl,rfl,⟨⟨ai _,eB⟩,fun h=>by simp at h,by simp only;omega,BS hnm⟩,?_⟩;rw[fC,aH rfl]
  simp only
  omega
 rw[aA hnm,aH (show eU name=false by simpa using hnm)];exact aK ⟨_,rfl,aP ⟨0,bS,rfl,rfl⟩,rfl⟩
theorem TU(hid:id≠0)(he:vP A a t w)(hp:jg A id c fb d r w)(hI:rY c r d)(hc:c<1099511627776)(name data:ah)(hn:name.size<=140737488351232)(hd:data.size<=140737488351232):
  Calls Tryz.prog 229 #[.pointer (some ⟨fb,0,none⟩),.string name,.string data] w (Db A a id c fb (kQ r name data) w):=by
 obtain⟨nb,sb,n,m,sv,S,h1,h2,h3,h4,h5,h6,h7,h8,h9,h10,h11⟩:=hp;have htot:=hI.total;have hdo:=pV r.seen name;refine(Ll name data (aC hn bS) hd r.seen hI.sorted.distinct aJ aJ S (jW a 0) (jW a 1) (jW a 2) (jW a 3) d fb nb sb n sv w ⟨h1,h2,h4,he.Gn,he.glob⟩ (by unfold maxLen;omega) hI.Kq (by rw[hI.room];exact hI.hi) (by rw[h5];have:=hI.count;omega) h11 ⟨h9.2.2.2.1,h9.2.2.2.2.1,h9.1⟩).mono (fun e w' hpost=>Fq hid hI h1 h2 h3 h5 h6 h7 h8 h9 h10 h11 ?_ hpost);rw[kQ,vV,OB,hI.room]
 by_cases hnm:eU name=true
 ·rw[aH hnm,aA (show¬eU name=false by simp[hnm])]
  by_cases hmr:r.room<(totalBytes r.seen:Int)+(data.size:Int)
  ·rw[aH hmr,aH (show decide (r.room<(data.size:Int)+(totalBytes r.seen:Int))=true by simp;omega)];exact aK ⟨_,rfl,aP ⟨2,bS,rfl,rfl⟩,rfl⟩
  rw[aA hmr,aA (show¬decide (r.room<(data.size:Int)+(totalBytes r.seen:Int))=true by simp;omega)];have hput:=vC r.seen hI.sorted.distinct name (fZ r.seen name++data);have hhi:=hI.hi;rw[aL] at hput;refine aP ⟨rfl,rfl,⟨⟨eB,eB⟩,fun h=>by simp at h,by simp only;omega,BS hnm⟩,?_⟩;rw[fC,aA eB,aH rfl]
  simp only
  omega
 rw[aA hnm,aH (show eU name=false by simpa using hnm)];exact aK ⟨_,rfl,aP ⟨0,bS,rfl,rfl⟩,rfl⟩
theorem TW(hid:id≠0)(he:vP A a t w)(hp:jg A id c fb d r w)(hI:rY c r d)(hc:c<1099511627776)(name:ah)(hn:name.size<=140737488351232):
  Calls Tryz.prog 78 #[.pointer (some ⟨fb,0,none⟩),.string name] w (Db A a id c fb (tq r name) w):=by
 obtain⟨nb,sb,n,m,sv,S,h1,h2,h3,h4,h5,h6,h7,h8,h9,h10,h11⟩:=hp;have htot:=hI.total;have hdo:=pV r.seen name;refine(Lm name (aC hn bS) r.seen aJ S (jW a 0) (jW a 1) (jW a 2) (jW a 3) d fb nb sb n sv w ⟨h1,h2,h4,he.Gn,he.glob⟩ (by unfold maxLen;omega) hI.Kq (by rw[h5];have:=hI.count;omega) h11 ⟨h9.2.2.2.1,h9.2.2.2.2.1,h9.1⟩).mono (fun e w' hpost=>Fq hid hI h1 h2 h3 h5 h6 h7 h8 h9 h10 h11 ?_ hpost);rw[tq,wm]
 by_cases hnm:eU name=true
 ·rw[aH hnm,aA (show¬eU name=false by simp[hnm])]
  by_cases hps:iW r.seen name=-1
  ·rw[aH hps,aH hps];exact aK ⟨_,rfl,aP ⟨1,bS,rfl,rfl⟩,rfl⟩
  rw[aA hps,aA hps];have hw:=Dv r.seen hI.sorted.distinct name;refine aP ⟨rfl,rfl,⟨⟨eB,eB⟩,fun h=>by simp at h,aS _,BS hnm⟩,?_⟩;rw[fC,aA eB,aA eB,aA eB]
  simp only
  omega
 rw[aA hnm,aH (show eU name=false by simpa using hnm)];exact aK ⟨_,rfl,aP ⟨0,bS,rfl,rfl⟩,rfl⟩
theorem TY(hid:id≠0)(he:vP A a t w)(hp:jg A id c fb d r w)(hI:rY c r d)(hc:c<1099511627776)(frm tnm:ah)(hn:frm.size<=140737488351232):
  Calls Tryz.prog 174 #[.pointer (some ⟨fb,0,none⟩),.string frm,.string tnm] w (Db A a id c fb (kR r frm tnm) w):=by
 obtain⟨nb,sb,n,m,sv,S,h1,h2,h3,h4,h5,h6,h7,h8,h9,h10,h11⟩:=hp;have htot:=hI.total;have hdo:=pV r.seen frm;refine(Lp frm tnm (aC hn bS) r.seen aJ S (jW a 0) (jW a 1) (jW a 2) (jW a 3) d fb nb sb n sv w ⟨h1,h2,h4,he.Gn,he.glob⟩ (by unfold maxLen;omega) hI.Kq (by rw[h5];have:=hI.count;omega) h11 ⟨h9.2.2.2.1,h9.2.2.2.2.1,h9.1⟩).mono (fun e w' hpost=>Fq hid hI h1 h2 h3 h5 h6 h7 h8 h9 h10 h11 ?_ hpost);rw[kR,rT]
 by_cases hnm:eU frm=true/\eU tnm=true
 ·rw[aH hnm,aA (show¬(eU frm=false\/eU tnm=false) by simp[hnm.1,hnm.2])]
  by_cases hps:iW r.seen frm=-1
  ·rw[aH hps,aH hps];exact aK ⟨_,rfl,aP ⟨1,bS,rfl,rfl⟩,rfl⟩
  rw[aA hps,aA hps];have hw:=Dv r.seen hI.sorted.distinct frm;have hput:=vC (iO r.seen frm) (hI.sorted.without frm).distinct tnm (fZ r.seen frm);have hsz:=BS hnm.2;refine aP ⟨rfl,rfl,⟨⟨eB,eB⟩,fun _=>hps,by simp only;omega,BS hnm.1⟩,?_⟩;rw[fC,aA eB,aA eB,aH rfl]
  simp only
  omega
 have hor:eU frm=false\/eU tnm=false:=by
  by_cases h1:eU frm=true
  ·right
   have:¬eU tnm=true:=fun h2=>hnm ⟨h1,h2⟩
   simpa using this
  left;simpa using h1
 rw[aA hnm,aH hor];exact aK ⟨_,rfl,aP ⟨0,bS,rfl,rfl⟩,rfl⟩
theorem ZP(hid:id≠0)(he:vP A a t w)(hp:jg A id c fb d r w)(hI:rY c r d):
  Calls Tryz.prog 173 #[.pointer (some ⟨fb,0,none⟩)] w (Db A a id c fb (iX r) w):=by
 obtain⟨nb,sb,n,m,sv,S,h1,h2,h3,h4,h5,h6,h7,h8,h9,h10,h11⟩:=hp;refine(QU r.seen (jW a 3) d fb nb sb n sv w h1 h2 (fun e=>h9.1 e.symm) hI.Kq he.Gn.down aJ).mono ?_;rintro e w' ⟨hm,ht,hcase⟩;have hT:aW (fun k=>A k=id) w w':=ht.mono (fun k hk=>by rw[hk];exact h10.1)
 rcases hcase with ⟨hd,rfl,hr⟩|⟨hd,rfl,z,hz,hr,hmz⟩
 ·rcases hI.sync with ⟨_,e2,hI2⟩|⟨e1,_⟩
  ·rw[e2]
   have hkeep:∀k,k<w.heap.size->k≠fb->w'.heap[k]?=w.heap[k]?:=fun k hk hne=>ht.block k hk hne
   refine⟨jW a 3,gY d,A,rfl,aP ⟨3,bS,rfl,rfl⟩,⟨nb,sb,n,m,sv,S,hr,by rw[sV];exact hm,by rw[xJ];exact h3.keep (hkeep sb h3.lt (fun e=>h9.2.1 e.symm)),h4.keep (fun k hk=>hkeep k (h4.lt k hk) (fun e=>h9.2.2.2.1 (by rw[hk,e]))),by rw[kN];exact h5,?_,aJ,by rw[kN];omega,h9,h10,h11⟩,hI2,fun _ _=>rfl,hT⟩;rw[kN];intro j k hk;obtain⟨x,y⟩:=h6 j k hk;exact⟨x.keep (fun b hb=>hkeep b (x.box_lt b hb) (fun e=>hid (by rw[<-h10.1,<-e];exact y b hb))),y⟩
  rw[hd] at e1;cases e1
 rcases hI.sync with ⟨e1,_⟩|⟨_,e2,e3,e4,e5,hI2⟩
 ·rw[hd] at e1;cases e1
 obtain⟨A',a1,a2,a3⟩:=Ga A w.heap.size id (fun b=>b=z);refine⟨.nilIface,gY d,A',rfl,aK ⟨rfl,e2⟩,⟨nb,z,n,n,.slice none 0 0,[],hr,by rw[e3];exact hm,by rw[e4];exact hmz,⟨⟨rfl,aK ⟨rfl,rfl⟩⟩⟩,by rw[e5];rfl,fun j k hk=>by simp at hk,aJ,by rw[e5];simp;omega,⟨h9.1,?_,?_,sOB,sOB,sOB⟩,⟨by rw[a1 _ h1.lt];exact h10.1,by rw[a1 _ h2.lt];exact h10.2.1,a2 z hz rfl,fun k hk=>by simp[Value.ownBlock] at hk⟩,h11⟩,hI2,a1,hT⟩
 ·have:=h1.lt;omega
 have:=h2.lt;omega
def XK(A:Nat->Nat)(id c fb:Nat)(q:bY)(w:ak)(e:Ending)(w':ak):Prop:=
 ∃d' A',e=.returned (.tuple #[])/\jg A' id (c+1) fb d' q w'/\rY (c+1) q d'/\(∀k,k<w.heap.size->A' k=A k)/\aW (fun k=>A k=id) w w'
theorem jg.row{r':bY}(hid:id≠0)(h:jg A id c fb d r w)(hc:c<=c')(hs:r'.safe=r.safe/\r'.seen=r.seen/\r'.wait=r.wait)(ht:aW (fun k=>k=fb) w w')(hrow:∀nb sb sv,bH w fb d 0 nb sb sv->bH w' fb d' 0 nb sb sv):jg A id c' fb d' r' w'/\aW (fun k=>A k=id) w w':=by
 obtain⟨nb,sb,n,m,sv,S,h1,h2,h3,h4,h5,h6,h7,h8,h9,h10,h11⟩:=h
 have hk:∀k,k<w.heap.size->k≠fb->w'.heap[k]?=w.heap[k]?:=fun k hk hne=>ht.block k hk hne
 refine⟨⟨nb,sb,n,m,sv,S,hrow _ _ _ h1,by rw[hs.2.1];exact h2.keep (hk nb h2.lt (fun e=>h9.1 e.symm)),by rw[hs.1];exact h3.keep (hk sb h3.lt (fun e=>h9.2.1 e.symm)),h4.keep (fun k q=>hk k (h4.lt k q) (fun e=>h9.2.2.2.1 (by rw[q,e]))),by rw[hs.2.2];exact h5,?_,aJ,by rw[hs.2.2];omega,h9,h10,h11⟩,ht.mono (fun k e=>by rw[e];exact h10.1)⟩;rw[hs.2.2];intro j k q;obtain⟨x,y⟩:=h6 j k q;exact⟨x.keep (fun b hb=>hk b (x.box_lt b hb) (fun e=>hid (by rw[<-h10.1,<-e];exact y b hb))),y⟩
theorem bH.same{lk:Int}{nb' sb':Nat}{sv':Value}(h:bH w fb d lk nb sb sv)(h':bH w fb d lk nb' sb' sv'):nb=nb'/\sb=sb'/\sv=sv':=by
 have e:=h.symm.trans h';injection e with e;injection e with e;have e3:=ig (fun x=>x[3]?) e;have e4:=ig (fun x=>x[4]?) e;have e5:=ig (fun x=>x[5]?) e
 simp[dX.row] at e3 e4 e5
 exact⟨e3,e4,e5⟩
theorem ZN(hid:id≠0)(hp:jg A id c fb d r w)(hI:rY c r d)(n:Int)(hn:n<=9223372036854775807):
  Calls Tryz.prog 52 #[.pointer (some ⟨fb,0,none⟩),.int .i64 n] w (XK A id c fb {r with lit:=decide (0<n),left:=n} w):=by
 obtain⟨nb,sb,_,_,sv,_,h1,_⟩:=(show _ from hp);refine(QO n d fb nb sb sv w h1).mono ?_;rintro e w' ⟨rfl,hr,ht⟩
 have hx:=hp.row (r':={r with lit:=decide (0<n),left:=n}) (d':={d with fuse:=max n 0}) (c':=c+1) hid (fH c) ⟨rfl,rfl,rfl⟩ ht (fun nb' sb' sv' h'=>by
  obtain⟨e1,e2,e3⟩:=bH.same h1 h'
  subst e1 e2 e3;exact hr)
 exact⟨_,A,rfl,hx.1,(hI.setFuse n hn).later (fH c),fun _ _=>rfl,hx.2⟩
theorem ZO(hid:id≠0)(hp:jg A id c fb d r w)(hI:rY c r d)(n:Int):
  Calls Tryz.prog 41 #[.pointer (some ⟨fb,0,none⟩),.int .i64 n] w (XK A id c fb {r with room:=min (max n 0) 65536} w):=by
 obtain⟨nb,sb,_,_,sv,_,h1,_⟩:=(show _ from hp);refine(QT n d fb nb sb sv w h1).mono ?_;rintro e w' ⟨rfl,hr,ht⟩
 have hx:=hp.row (r':={r with room:=min (max n 0) 65536}) (d':={d with room:=min (max n 0) 65536}) (c':=c+1) hid (fH c) ⟨rfl,rfl,rfl⟩ ht (fun nb' sb' sv' h'=>by
  obtain⟨e1,e2,e3⟩:=bH.same h1 h'
  subst e1 e2 e3;exact hr)
 exact⟨_,A,rfl,hx.1,(hI.setRoom n).later (fH c),fun _ _=>rfl,hx.2⟩
theorem WZ(hid:id≠0)(hp:jg A id c fb d r w)(hI:rY c r d)(hc:c<1099511627776)(keep cut:Int):
  Calls Tryz.prog 40 #[.pointer (some ⟨fb,0,none⟩),.int .i64 keep,.int .i64 cut] w (XK A id c fb (BN r keep cut) w):=by
 obtain⟨nb,sb,n,m,sv,S,h1,h2,h3,h4,h5,h6,h7,h8,h9,h10,h11⟩:=hp;refine(Nl keep cut d fb nb sb m sv S r w h1 h3 h4 ⟨h9.2.2.2.1,fun e=>h9.2.1 e.symm⟩ h5 (by rw[h5];have:=hI.count;omega) (fun j k hk=>⟨(h6 j k hk).1,fun b hb e=>hid (by rw[<-h10.1,<-e];exact(h6 j k hk).2 b hb)⟩) hI.ops (fun j hj=>(hI.kept j hj).2) (by unfold maxLen;omega)).mono ?_;rintro e w' ⟨rfl,nb',sb',hr,hm1,hm2,ht,hn1,hn2,hne⟩;obtain⟨A',a1,a2,a3⟩:=Ga A w.heap.size id (fun b=>b=nb'\/b=sb');have hfb:=h1.lt;refine⟨{d with fuse:=0,down:=false},A',rfl,⟨nb',sb',m+r.wait.length,m+r.wait.length,.slice none 0 0,[],hr,hm1,hm2,⟨⟨rfl,aK ⟨rfl,rfl⟩⟩⟩,rfl,fun j k hk=>by simp at hk,aJ,by simp[BN];omega,⟨aJ,aJ,hne,sOB,sOB,sOB⟩,⟨by rw[a1 _ hfb];exact h10.1,a2 nb' hn1 (aK rfl),a2 sb' hn2 (aP rfl),fun k hk=>by simp[Value.ownBlock] at hk⟩,h11⟩,(hI.ahZ keep cut).1.later (fH c),a1,ht.mono (fun k e=>by rw[e];exact h10.1)⟩
theorem TV(A:Nat->Nat)(id c:Nat)(w:ak)(hg:14<=w.heap.size)(n:Int):
  Calls Tryz.prog 27 #[.int .i64 n] w fun e w'=>∃fb A',e=.returned (.pointer (some ⟨fb,0,none⟩))/\jg A' id c fb ⟨min (max n 0) 65536,0,false⟩ ⟨[],[],min (max n 0) 65536,[],0,false,false⟩ w'/\(∀k,k<w.heap.size->A' k=A k)/\w.heap.size<=fb/\Below w.heap.size w w':=by
 refine(Uh n w).mono ?_;rintro e w' ⟨fb,nb,sb,rfl,hr,hm1,hm2,l1,l2,l3,n1,n2,n3,hb⟩;obtain⟨A',a1,a2,a3⟩:=Ga A w.heap.size id (fun b=>b=fb\/b=nb\/b=sb);exact⟨fb,A',rfl,⟨nb,sb,0,0,.slice none 0 0,[],hr,hm1,hm2,⟨⟨rfl,aK ⟨rfl,rfl⟩⟩⟩,rfl,fun j k hk=>by simp at hk,aS _,aS _,⟨fun e=>n1 e.symm,fun e=>n2 e.symm,n3,sOB,sOB,sOB⟩,⟨a2 fb l1 (aK rfl),a2 nb l2 (aP (aK rfl)),a2 sb l3 (aP (aP rfl)),fun k hk=>by simp[Value.ownBlock] at hk⟩,aC hg l1⟩,a1,l1,hb⟩
theorem GD(hid:id≠0)(he:vP A a t w)(hp:jg A id c fb d r w)(name:ah)(hn:name.size<=140737488351232):
  Calls Tryz.prog 45 #[.pointer (some ⟨fb,0,none⟩),.string name] w fun e w'=>∃v,e=.returned (.tuple #[.string (uK r name).1,v])/\rJ a v (uK r name).2/\jg A id c fb d r w'/\aW (fun k=>A k=id) w w':=by
 obtain⟨nb,sb,n,m,sv,S,h1,h2,h3,h4,h5,h6,h7,h8,h9,h10,h11⟩:=(show _ from hp);refine(QS name (aC hn bS) r.seen (jW a 1) d fb nb sb n sv w h1 h2 (fun e=>h9.1 e.symm) he.Gn.gone aJ).mono ?_;rintro e w' ⟨rfl,hr,ht⟩
 have hx:=hp.row (r':=r) (d':=d) (c':=c) hid (ai _) ⟨rfl,rfl,rfl⟩ ht (fun nb' sb' sv' h'=>by
  obtain⟨e1,e2,e3⟩:=bH.same h1 h'
  subst e1 e2 e3;exact hr)
 by_cases hps:iW r.seen name=-1
 ·refine⟨jW a 1,?_,?_,hx.1,hx.2⟩
  ·rw[Il,aA (by simp[hps]),uK,aH hps]
  rw[uK,aH hps];exact aP ⟨1,bS,rfl,rfl⟩
 refine⟨.nilIface,?_,?_,hx.1,hx.2⟩
 ·rw[Il,aH (by simpa using hps),uK,aA hps]
 rw[uK,aA hps];exact aK ⟨rfl,rfl⟩
theorem Xa(hid:id≠0)(hp:jg A id c fb d r w)(hI:rY c r d)(hc:c<1099511627776):
  Calls Tryz.prog 44 #[.pointer (some ⟨fb,0,none⟩)] w fun e w'=>∃g,w.heap.size<=g/\e=.returned (.slice (some ⟨g,0,none⟩) r.seen.length r.seen.length)/\w'.ownsRow w.heap.size 9 1 (.slice (some ⟨g,0,none⟩) r.seen.length r.seen.length) r.seen.length ((rR r.seen).map encStr)/\jg A id c fb d r w'/\aW (fun k=>A k=id) w w':=by
 obtain⟨nb,sb,n,m,sv,S,h1,h2,h3,h4,h5,h6,h7,h8,h9,h10,h11⟩:=(show _ from hp);refine(Nn r.seen hI.sorted d fb nb sb n sv w h1 h2 aJ (fun e=>h9.1 e.symm)).mono ?_;rintro e w' ⟨g,hg,rfl,hrow,hr,ht⟩
 have hx:=hp.row (r':=r) (d':=d) (c':=c) hid (ai _) ⟨rfl,rfl,rfl⟩ ht (fun nb' sb' sv' h'=>by
  obtain⟨e1,e2,e3⟩:=bH.same h1 h'
  subst e1 e2 e3;exact hr)
 exact⟨g,hg,rfl,hrow,hx.1,hx.2⟩
theorem Lg(hid:id≠0)(he:vP A a t w)(hp:jg A id c fb d r w)(hI:rY c r d)(hc:c<1099511627776)(name data:ah)(hn:name.size<=140737488351232)(hd:data.size<=140737488351232):
  Calls Tryz.prog 29 #[.pointer (some ⟨fb,0,none⟩),.string name,.string data] w (RJ A id c fb (eP r name data) w):=by
 have HP:=aV (Ld hid he hp hI hc name data hn hd);have HE:=aV he;clear he hp hI
 go_enter Tryz.func29,Tryz.ntmps29
 go_wp2_with fail
 refine HP.out.mono ?_;rintro e w1 ⟨v,d',A',rfl,jH,hp1,hI1,hA1,ht1⟩;have FV:Hid (uR a t w1):=(HE.out.keep (A':=A') ht1.size hA1 (fun k hk h0=>ht1.block k hk (fun e=>hid (e.symm.trans h0)))).pU
 have HX:Hid (∀w2,Below w1.heap.size w1 w2->RJ A id c fb (eP r name data) w (.returned (.int .i64 ((eP r name data)).1)) w2):=fun w2 hb=>Db.told hp1 hI1 hA1 ht1 hb
 have HN:=aV jH;clear jH hp1 hI1 hA1 ht1 HE HP;generalize ((eP r name data)).1=num at*
 go_wp2_with fail
 refine(Cz HN.out w1 FV.out).mono ?_;rintro e w2 ⟨rfl,hb2⟩;have HB2:=aV hb2;clear hb2
 go_wp2
 go_ret;exact HX.out w2 HB2.out
theorem IZ(hid:id≠0)(he:vP A a t w)(hp:jg A id c fb d r w)(hI:rY c r d)(hc:c<1099511627776)(name:ah)(hn:name.size<=140737488351232):
  Calls Tryz.prog 51 #[.pointer (some ⟨fb,0,none⟩),.string name] w (RJ A id c fb (tq r name) w):=by
 have HP:=aV (TW hid he hp hI hc name hn);have HE:=aV he;clear he hp hI
 go_enter Tryz.func51,Tryz.ntmps51
 go_wp2_with fail
 refine HP.out.mono ?_;rintro e w1 ⟨v,d',A',rfl,jH,hp1,hI1,hA1,ht1⟩;have FV:Hid (uR a t w1):=(HE.out.keep (A':=A') ht1.size hA1 (fun k hk h0=>ht1.block k hk (fun e=>hid (e.symm.trans h0)))).pU
 have HX:Hid (∀w2,Below w1.heap.size w1 w2->RJ A id c fb (tq r name) w (.returned (.int .i64 ((tq r name)).1)) w2):=fun w2 hb=>Db.told hp1 hI1 hA1 ht1 hb
 have HN:=aV jH;clear jH hp1 hI1 hA1 ht1 HE HP;generalize ((tq r name)).1=num at*
 go_wp2_with fail
 refine(Cz HN.out w1 FV.out).mono ?_;rintro e w2 ⟨rfl,hb2⟩;have HB2:=aV hb2;clear hb2
 go_wp2
 go_ret;exact HX.out w2 HB2.out
theorem Nk(hid:id≠0)(he:vP A a t w)(hp:jg A id c fb d r w)(name:ah)(hn:name.size<=140737488351232):
  Calls Tryz.prog 21 #[.pointer (some ⟨fb,0,none⟩),.string name] w fun e w'=>e=.returned (.tuple #[.string (uK r name).1,.int .i64 (uK r name).2])/\jg A id c fb d r w'/\aW (fun k=>A k=id) w w':=by
 have HP:=aV (GD hid he hp name hn);have HE:=aV he;clear he hp;generalize uK r name=q at HP⊢;obtain⟨txt,num⟩:=q;simp only at HP⊢
 go_enter Tryz.func21,Tryz.ntmps21
 go_wp2_with fail
 refine HP.out.mono ?_;rintro e w1 ⟨v,rfl,jH,hp1,ht1⟩;have FV:Hid (uR a t w1):=(HE.out.keep (A':=A) ht1.size (fun _ _=>rfl) (fun k hk h0=>ht1.block k hk (fun e=>hid (e.symm.trans h0)))).pU
 have HX:Hid (∀w2,Below w1.heap.size w1 w2->jg A id c fb d r w2/\aW (fun k=>A k=id) w w2):=fun w2 hb=>⟨hp1.keep (ai _) (fun _ _=>rfl) (fun k hk _=>hb.block k hk),ht1.trans (aW.of_below (fun _=>False) hb) (fun _ h=>h.elim)⟩
 have HN:=aV jH;clear jH hp1 ht1 HE HP
 go_wp2_with fail
 refine(Cz HN.out w1 FV.out).mono ?_;rintro e w2 ⟨rfl,hb2⟩;have HB2:=aV hb2;clear hb2
 go_wp2
 go_ret2;exact⟨rfl,HX.out w2 HB2.out⟩
end
end Go.Proofs.YthhbpebihgjpjaaGreatDoor
