import Derived.Test.YthhbpebihgjpjaaGreatDoorZ21
import Derived.Lib.AppendZeros
namespace Go.Proofs.YthhbpebihgjpjaaGreatDoor
set_option maxRecDepth 1000000
set_option maxHeartbeats 20000000
set_option linter.all false
section
open Go.RowKit Go.Maps
variable {B:Nat}{w:aj}
theorem lm.Ye{F:Nat->Prop}{w':aj}(h:lm F w w')(hB:B<=w.heap.size)(hF:∀k,F k->B<=k):Below B w w':=h.below (au B w) hB hF
variable {v:Value}{l:List gm}
theorem BS(hr:sw w v l)(hro:∀r∈l,lN r)(hl:l.length<=1000000000000):
  Calls Tryz.prog 175 #[v] w fun e w'=>∃lb mb vn,e=.returned (.pointer (some ⟨lb,0,none⟩))/\jG w' lb mb vn l.length (qM l)/\(∀k,oI lb mb vn k->w.heap.size<=k)/\Below w.heap.size w w':=by
 obtain⟨W1,hW1⟩:∃W1,W1=(w.alloc (.map #[] 0)).alloc (.cells #[.int .i64 0,.slice none 0 0,.map (some w.heap.size)] 270):=⟨_,rfl⟩;have hsz:(w.alloc (.map #[] 0)).heap.size=w.heap.size+1:=bJ _ _
 have hB1:Below w.heap.size w W1:=by rw[hW1];exact((au _ _).alloc (ai _) _).alloc (by omega) _
 have hbk:jG W1 (w.heap.size+1) w.heap.size (.slice none 0 0) 0 ku.none:=by
  refine⟨by rw[hW1];exact aW _ _ _ hsz.symm,dD _ _ _ _,?_,wR.none,fun x r h=>absurd h.symm (RH _)⟩;have h:=dU.made GI (.agg Tryz.zeroCells372) ZP w;rw[hW1];exact dU.keep h (aZ _ _ _ (by omega))
 have HN:Hid (Calls Tryz.prog 241 #[.pointer (some ⟨w.heap.size+1,0,none⟩),v] W1 fun e w'=>e=.returned (.tuple #[])/\∃Nv,jG w' (w.heap.size+1) w.heap.size Nv (0+l.length) (l.foldl iY ku.none)/\(∀k,Nv.ownBlock=some k->(Value.slice none 0 0).ownBlock=some k\/W1.heap.size<=k)/\lm (oI (w.heap.size+1) w.heap.size (.slice none 0 0)) W1 w'):=by
  refine KU hbk (hr.keep hB1) hro ?_ hl (by omega) (by show 0<=_;omega);obtain⟨ao,cap,rfl,_,h|⟨g,o,rfl,hg,_⟩⟩:=hr
  ·exact aG h
  refine aL fun a m c e h=>?_
  injection e with e _ _;have e:=ak e;subst e
  rcases h with q|q|q
  ·have q:g=w.heap.size+1:=q;omega
  ·have q:g=w.heap.size:=q;omega
  cases q
 have HF:Hid (∀k,oI (w.heap.size+1) w.heap.size (.slice none 0 0) k->w.heap.size<=k):=fun k hk=>by
  rcases hk with q|q|q
  ·omega
  ·omega
  cases q
 have HB1:=aP hB1
 have hmk:(Instr.makeMap 268 none).run Tryz.prog w=.ok (.map (some w.heap.size)) (w.alloc (.map #[] 0)):=by simp[Instr.makeMap,go_sem]
 obtain⟨ao,cap,rfl,_,_⟩:=hr;have HW1:=aP hW1;generalize Qn:l.length=LL at*;clear hW1 hB1 hbk hro Qn
 go_enter Tryz.func175,Tryz.ntmps175
 go_wp2_with fail
 rw[<-HW1.out];refine HN.out.mono ?_;rintro e w2 ⟨rfl,vn,hb2,hg2,hm2⟩
 have HE:Hid (jG w2 (w.heap.size+1) w.heap.size vn LL (qM l)/\(∀k,oI (w.heap.size+1) w.heap.size vn k->w.heap.size<=k)/\Below w.heap.size w w2):=by
  rw[bW] at hb2;refine⟨hb2,fun k hk=>?_,HB1.out.trans (hm2.Ye HB1.out.size HF.out)⟩
  rcases hk with q|q|q
  ·omega
  ·omega
  rcases hg2 k q with q|q
  ·cases q
  exact aA HB1.out.size q
 clear hb2 hg2 hm2 HN hmk
 go_wp2_with fail
 go_ret;exact⟨_,_,vn,rfl,HE.out⟩
theorem Od(off:Nat):∀(l:List Value) (k:Nat) (c:Array Value),off+k+l.length<=c.size->((l.zipIdx k).foldl (fun cs x=>cs.setIfInBounds (off+x.2) x.1) c).toList=c.toList.take (off+k)++l++c.toList.drop (off+k+l.length)
 |[],k,c,h=>by
  show c.toList=_;rw[fF];exact(MP _ _).symm
 |x::l,k,c,h=>by
  rw[aS] at h;rw[List.zipIdx_cons,jr,Od off l (k+1) _ (by rw[FK];omega)];rw[Dw]
  have hk:off+k<c.toList.length:=by rw[aR];omega
  have e1:(c.toList.set (off+k) x).take (off+(k+1))=c.toList.take (off+k)++[x]:=by
   rw[show off+(k+1)=off+k+1 by omega,dN,sj hk,List.take_set_of_le (ai _)];rfl
  have e2:(c.toList.set (off+k) x).drop (off+(k+1)+l.length)=c.toList.drop (off+k+(x::l).length):=by
   rw[List.drop_set_of_lt (by omega),aS]
   congr 1
   omega
  rw[e1,e2,eH,eH,eH];rfl
theorem Cq(off:Nat)(a c:Array Value)(h:off+a.size<=c.size):a.zipIdx.foldl (fun cs (x:Value×Nat)=>cs.setIfInBounds (off+x.2) x.1) c=(c.toList.take off++a.toList++c.toList.drop (off+a.size)).toArray:=by
 apply fD.1;rw[<-Array.foldl_toList,Array.toList_zipIdx,Od off a.toList 0 c (by rw[aR];omega)]
 simp
theorem VW(a c:Array Value)(h:a.size=c.size):Array.foldl (fun cs (x:Value×Nat)=>cs.setIfInBounds x.2 x.1) c a.zipIdx 0 a.size=a:=by
 have e:=Cq 0 a c (by omega);simp only[bW] at e;rw[DC,xw,kR (by rw[aR];omega),fF,cK] at e
 have hz:a.zipIdx.size=a.size:=by simp
 rw[hz] at e;exact e
theorem Kg(a c:Array Value)(h:a.size=65)(hc:c.size=65):Array.foldl (fun cs (x:Value×Nat)=>cs.setIfInBounds x.2 x.1) c a.zipIdx 0 65=a:=by
 have e:=VW a c (h.trans hc.symm);rw[h] at e;exact e
theorem XR:∀(l:List gm) (k j:Nat) (r:gm) (u:Value),(∀r∈l,(bE r).length=65)->l[k]?=some r->(bE r)[j]?=some u->(l.flatMap bE)[k*65+j]?=some u
 |[],_,_,_,_,_,h,_=>by simp at h
 |x::l,0,j,r,u,hl,h,hu=>by
  obtain rfl:x=r:=by simpa using h
  rw[mW,bQ (by have:=(aJ.1 hu).1;omega),ql,bW];exact hu
 |x::l,k+1,j,r,u,hl,h,hu=>by
  have hx:=hl x (aM ..);rw[mW,dh (by omega),hx,show(k+1)*65+j-65=k*65+j by omega];exact XR l k j r u (fun r hr=>hl r (aU _ hr)) (by simpa using h) hu
variable {n:Nat}
theorem BV(h:w.ownsRow B 372 65 v n (l.flatMap bE))(hn:l.length=n)(hl:∀r∈l,lN r):sw w v l:=by
 subst hn;obtain⟨ao,cap,rfl,hc,hg⟩:=bq h
 cases l with
 |nil=>exact⟨ao,cap,rfl,hc,aG rfl⟩
 |cons x q=>
  obtain⟨g,rfl⟩:=hg (Nat.succ_pos _);refine⟨_,cap,rfl,hc,aL ⟨g,0,rfl,(bA h g rfl).2,fun k r hr j u hu=>?_⟩⟩;rw[bW];exact(dO h _ u (XR _ k j r u (fun r hr=>iO (hl r hr)) hr hu)).1
variable {L:ku}{j:Nat}{r:gm}
theorem KM{x:ah}(hx:L.names[j]?=some x)(hr:L.last x=some r):(L.names.take (j+1)).filterMap L.last=(L.names.take j).filterMap L.last++[r]:=by
 rw[dN,hx,lT,MN,Ck,hr];rfl
theorem Fe(h:wR L):∀j,j<=L.names.length->((L.names.take j).filterMap L.last).length=j
 |0,_=>rfl
 |j+1,hj=>by
  obtain⟨x,hx⟩:∃x,L.names[j]?=some x:=⟨L.names[j]'(by omega),by simp⟩;obtain⟨r,hr⟩:=fI.1 ((h.has x).1 (aO hx));rw[KM hx hr,aF,Fe h j (by omega)];rfl
theorem IW{lb mb:Nat}{vn:Value}(h:jG w lb mb vn n L)(hc:L.count<=1000000000000):
  Calls Tryz.prog 171 #[.pointer (some ⟨lb,0,none⟩)] w fun e w'=>∃v,e=.returned v/\sw w' v (jZ L)/\(∀k,v.ownBlock=some k->w.heap.size<=k)/\Below w.heap.size w w':=by
 have hinf:(Tryz.prog.info? 372).map (fun i=>(i.size,i.bytes,i.zero))=some (65,80,some (.agg Tryz.zeroCells372)):=by kernel_rfl
 obtain⟨ti,hti,htj⟩:=aX.1 hinf;simp only[Prod.mk.injEq] at htj;have hnl:L.names.length<=1000000000000:=aA h.ok.le hc;obtain⟨w2,hmk,ho,hg⟩:=run_make_own (P:=Tryz.prog) w w.heap.size 271 372 ti _ 65 Tryz.underlying271 hti htj.2.2 htj.1 .i64 .i64 L.names.length (by rw[htj.2.1];omega) (by unfold maxLen;omega) (ai _)
 have hzs:(Value.agg Tryz.zeroCells372).cells.size=65:=by kernel_rfl
 have HTI:=aP (aK hti (aK htj.1 (aK htj.2.1 (aK htj.2.2 hzs))));have HB:=aP h;have HB2:Hid (Below w.heap.size w w2):=(au _ _).grown hg (ai _) (fun k hk=>by cases hk);obtain⟨aoN,VF,hvn,_,hgN⟩:=bq h.names;have HGN:=aP hgN;generalize hNL:L.names.length=NL at*;have CY:=aP hNL;subst hvn
 have c1:w.cell? ⟨lb,1,none⟩=some (.slice aoN NL VF):=by rw[bZ h.row];rfl
 have c1b:w2.cell? ⟨lb,1,none⟩=some (.slice aoN NL VF):=(HB2.out.cell (p:=⟨lb,1,none⟩) (aC c1)).trans c1;have HO:=aP ho
 have nl0:(NL:Int)<=1000000000000:=by omega
 clear hinf hti htj hzs ho hg h hgN hc hNL
 go_enter Tryz.func171,Tryz.ntmps171
 go_wp2_with fail
 clear c1 c1b hmk
 go_loopw [3,17] (fun v i wr=>∃(j cap:Nat) (ao:Option Addr),i=.int .i64 j/\v=.slice ao j cap/\j<=NL/\wr.ownsRow w.heap.size 372 65 (.slice ao j cap) j (((L.names.take j).filterMap L.last).flatMap bE)/\Below w.heap.size w wr) (fun _ i _=>NL-(intOf i).toNat)
 case atStart=>exact⟨0,NL,_,rfl,rfl,aN _,HO.out,HB2.out⟩
 case round=>
  clear HO HB2;obtain⟨j,cap,ao,rfl,rfl,hj,hrow,hbl⟩:=hrel;have HR:=aP (aK hrow hbl)
  have j0:(0:Int)<=(j:Int):=by omega
  by_cases hlt:j<NL
  ·have j1:(j:Int)<(NL:Int):=by omega
   obtain⟨gN,rfl⟩:=HGN.out (by omega);obtain⟨x,hx⟩:∃x,L.names[j]?=some x:=⟨L.names[j]'(by have:=CY.out;omega),by simp⟩;have hbk:=HB.out.below hbl;obtain⟨r,hr⟩:=fI.1 ((HB.out.ok.has x).1 (aO hx));have hro:=HB.out.recs x r hr
   have cx:wr.cell? ⟨gN,j,none⟩=some (.string x):=by
    have h1:=hbk.names;rw[CY.out] at h1;exact(dO h1 j _ (by rw[dM,hx];rfl)).1
   have c2:wr.cell? ⟨lb,2,none⟩=some (.map (some mb)):=by rw[bZ hbk.row];rfl
   have hxs:x.size<=32:=by rw[<-HB.out.ok.own x r hr];exact hro.name
   have hlk:=hbk.last.look (t:=268) Tryz.underlying268 yT x (by unfold maxLen;omega);rw[show(yG L x).getD (.agg Tryz.zeroCells372)=.agg (bE r).toArray by unfold yG;rw[hr];rfl] at hlk;have Ev:=aP (KM hx hr);have Bq:Hid ((bE r).toArray.size=65/\(bE r).toArray.all (·.oneCell')=true/\(bE r).toArray.toList=bE r):=⟨by rw[bT];exact iO hro,dY (lK r),rfl⟩;generalize (bE r).toArray=RC at*
   have HA:Hid ((wr.alloc (.cells RC 372)).ownsRow w.heap.size 372 65 (.slice ao j cap) j (((L.names.take j).filterMap L.last).flatMap bE)/\Below w.heap.size w (wr.alloc (.cells RC 372))/\∀i u,RC.toList[i]?=some u->(wr.alloc (.cells RC 372)).cell? ((⟨wr.heap.size,0,none⟩:Addr).add i)=some u):=⟨dL hrow (fun k hk=>aZ _ _ k (bA hrow k hk).2),hbl.alloc hbl.size _,by
    have h:=iH wr RC.toList 372;rw[cK] at h
    exact h⟩
   have hrs:=Bq.out.1;clear hrow hbl hbk hr hro hx hxs
   go_wp2_with (at_builtin;rw[Kg RC _ Bq.out.1];rotate_left;rfl;refine wpList_append_lies _ rfl (.tmp 21) (.tmp 28) 271 rfl w.heap.size 372 ti (.agg Tryz.zeroCells372) 65 80 Tryz.underlying271 HTI.out.1 HTI.out.2.2.2.1 HTI.out.2.1 HTI.out.2.2.1 HTI.out.2.2.2.2 (by decide) _ j _ rfl HA.out.1 ⟨wr.heap.size,0,none⟩ 1 1 RC.toList rfl (by rw[aR,Bq.out.1]) HA.out.2.2 (fun u hu=>kQ.1 Bq.out.2.1 u (uP.1 hu)) (by decide) (by unfold maxLen;omega) (by omega) HA.out.2.1.size _ rfl ?_;intro g7 lS w7 hv7 wT rC xg;refine dI ?_)
   have HF:Hid (w7.ownsRow w.heap.size 372 65 (.slice (some ⟨g7,0,none⟩) (j+1) lS) (j+1) (((L.names.take (j+1)).filterMap L.last).flatMap bE)/\Below w.heap.size w w7):=by
    refine⟨?_,HA.out.2.1.grown wT HA.out.2.1.size (fun k hk=>(bA HA.out.1 k hk).1)⟩;rw[Ev.out,kZ,List.flatMap_singleton,<-Bq.out.2.2];exact hv7
   clear hv7 wT rC xg HA hlk hrs;unfold Hid
   go_wp2_with fail
   exact⟨⟨j+1,lS,some ⟨g7,0,none⟩,by go_num,rfl,by omega,HF.out⟩,by simp[intOf];omega⟩
  obtain rfl:j=NL:=by omega
  have HFIN:Hid (sw wr (.slice ao j cap) (jZ L)):=by
   have h1:=HR.out.1;rw[bF (dx CY.out)] at h1;have h2:=Fe HB.out.ok L.names.length (ai _);rw[rf] at h2;refine BV h1 (h2.trans CY.out) (fun r hr=>?_);obtain⟨x,_,hx⟩:=jo.1 hr;exact HB.out.recs x r hx
  have HFB:Hid (∀k,(Value.slice ao j cap).ownBlock=some k->w.heap.size<=k):=fun k hk=>(bA HR.out.1 k hk).1
  clear hrow
  go_wp2
  go_ret;exact⟨_,rfl,HFIN.out,HFB.out,HR.out.2⟩
end
section
open Go.RowKit Go.Maps Go.Shelf
variable {b:ah}{r:gm}
theorem ab1(hr:pW b=some r):lN r:=by
 unfold pW at hr
 split at hr
 ·cases hr
 split at hr
 ·cases hr
 split at hr
 ·rename_i h1 h2 h3
  have h:=(fC h3).2.1;rw[<-ak hr];refine⟨h,?_,?_⟩
  ·show(b.extract (b.size-64) (b.size-32)).size=32;rw[aI];omega
  show(b.extract (b.size-32) b.size).size=32;rw[aI];omega
 cases hr
variable {t:ah}
theorem NU{x:gm×ah}(h:oQ t=some x):lN x.1/\x.2.size<t.size:=by
 unfold oQ at h;obtain⟨y,hy,h⟩:=rq.1 h;obtain⟨r,hr,rfl⟩:=aX.1 h;refine⟨ab1 hr,?_⟩;unfold lW at hy
 split at hy
 ·cases hy
 split at hy
 ·cases hy
 split at hy
 ·rw[<-ak hy];show(t.extract _ t.size).size<t.size;rw[aI];omega
 cases hy
theorem Sb(t:ah)(w:aj):
  Calls Tryz.prog 239 #[.string t,.string jm] w fun e w'=>e=.returned (.tuple #[.string (if t.extract 0 12=jm then t.extract 12 t.size else t),.bool (decide (t.extract 0 12=jm))])/\w'=w:=by
 have h:=Any.strings_CutPrefix Tryz.lays103 t jm w;have e0:jm.size=12:=rfl
 have hq:((t.extract 0 jm.size).toList==jm.toList)=decide (t.extract 0 12=jm):=by
  rw[e0]
  by_cases q:t.extract 0 12=jm
  ·rw[q];simp
  rw[bH q,lg];intro e;refine q (ByteArray.ext (fD.1 ?_));rw[dX,dX] at e;exact e
 refine h.mono ?_;rintro e w' ⟨rfl,rfl⟩;refine⟨?_,rfl⟩;rw[<-Lib.hasPrefix_raw,hq]
 by_cases q:t.extract 0 12=jm
 ·have hs:jm.size<=t.size:=by
   have h:=gW ByteArray.size q;rw[aI,e0] at h;rw[e0];omega
  rw[Lib.trimPrefix_hit t jm hs (by rw[hq,bN q]),aD q,bN hs];rfl
 rw[Lib.trimPrefix_miss t jm (by rw[hq,bH q,Pm]),ax q,bH q,Pm]
theorem Dq(g:Nat)(t:ah)(l:List gm)(h:t.size=0):mo g t l=(l,true):=by
 cases g with
 |zero=>show(l,t.size==0)=_;rw[h];rfl
 |succ g=>exact aD h
variable {l:List gm}
theorem Dr{g:Nat}(h:t.size<=g)(h0:t.size≠0):mo g t l=(match oQ t with|none=>(l,false)|some x=>mo (g-1) x.2 (l++[x.1])):=by
 cases g with
 |zero=>omega
 |succ g=>exact ax h0
theorem Ui(t:ah)(ht:t.size<=1000000)(w:aj):
  Calls Tryz.prog 162 #[.string t] w fun e w'=>∃lb mb vn n,e=.returned (.tuple #[.pointer (some ⟨lb,0,none⟩),.bool (iq t).2])/\jG w' lb mb vn n (qM (iq t).1)/\n<=t.size/\(iq t).1.length<=t.size/\(∀k,oI lb mb vn k->w.heap.size<=k)/\Below w.heap.size w w':=by
 have HN:Hid (Calls Tryz.prog 175 #[.slice none 0 0] w fun e w'=>∃lb mb vn,e=.returned (.pointer (some ⟨lb,0,none⟩))/\jG w' lb mb vn 0 (qM [])/\(∀k,oI lb mb vn k->w.heap.size<=k)/\Below w.heap.size w w'):=BS (l:=[]) ⟨none,0,rfl,ai _,aG rfl⟩ (fun r hr=>absurd hr dz) (aN _)
 have HCH:Hid (∀wx,Calls Tryz.prog 239 #[.string t,.string ⟨#[98,117,105,108,100,101,114,108,111,103,49,10]⟩] wx fun e w'=>e=.returned (.tuple #[.string (if t.extract 0 12=jm then t.extract 12 t.size else t),.bool (decide (t.extract 0 12=jm))])/\w'=wx):=fun wx=>Sb t wx
 have HI:Hid ((Tryz.prog.info? 372).map (·.size)=some 65):=by unfold Hid;kernel_rfl
 have HZ:Hid (Tryz.zeroCells372.size=65):=by unfold Hid;kernel_rfl
 have HT:=aP ht;clear ht
 go_enter Tryz.func162,Tryz.ntmps162
 go_wp2_with fail
 refine HN.out.mono ?_;rintro e w1 ⟨lb,mb,vn0,rfl,hbk,hfr,hb1⟩;have HB1:=aP (aK hbk (aK hfr hb1));clear hbk hfr hb1 HN
 go_wp2_with fail
 refine(HCH.out w1).mono ?_;rintro e y ⟨rfl,hy⟩;rw[hy];clear hy HCH
 by_cases hh:t.extract 0 12=jm
 ·rw[aD hh,bN hh];have HR:Hid (iq t=mo t.size (t.extract 12 t.size) []):=aD hh
  have wU:Hid ((t.extract 12 t.size).size<=t.size):=by show _<=_;rw[aI];omega
  clear hh;generalize t.extract 12 t.size=t0 at*
  go_wp2_with fail
  go_loopw [2,4] (fun p v wr=>∃(rest:ah) (l:List gm) (g n:Nat) (vn:Value),p=.pointer (some ⟨lb,0,none⟩)/\v=.string rest/\rest.size<=g/\l.length+rest.size<=t.size/\n=l.length/\iq t=mo g rest l/\jG wr lb mb vn n (qM l)/\(∀k,oI lb mb vn k->w.heap.size<=k)/\Below w.heap.size w wr) (fun _ v _=>Rf v)
  case atStart=>exact⟨t0,[],t.size,0,vn0,rfl,rfl,wU.out,by rw[dR,bW];exact wU.out,rfl,HR.out,HB1.out⟩
  case round=>
   clear HR wU HB1;obtain⟨rest,l,g,n,vn,rfl,rfl,hg,hlr,hn,hrr,hbk,hfr,hbl⟩:=hrel;have HB:=aP (aK hbk (aK hfr hbl));have HR:=aP (aK hg (aK hlr (aK hn hrr)));clear hg hlr hn hrr hbk hfr hbl
   by_cases h0:rest.size=0
   ·obtain rfl:rest=⟨#[]⟩:=by
     obtain⟨d⟩:=rest;have:d=#[]:=aaz h0;rw[this]
    have HE:Hid (iq t=(l,true)):=HR.out.2.2.2.trans (Dq _ _ _ rfl);clear h0
    go_wp2_with fail
    go_ret2;refine⟨lb,mb,vn,n,?_,?_,?_,?_,HB.out.2.1,HB.out.2.2⟩
    ·rw[HE.out];rfl
    ·rw[HE.out];exact HB.out.1
    ·have:=HR.out;omega
    rw[HE.out];have:=HR.out;show l.length<=_;omega
   have hne:(rest.toList==[])=false:=by
    rw[lg];intro e;rw[dX] at e;exact h0 (by have:=gW List.length e;simpa using this)
   have HNE:=aP h0;have HS:Hid (Rf (.string rest)=rest.size):=rfl;clear h0
   go_wp2_with fail
   refine(MU rest (by have:=HR.out;have:=HT.out;omega) wr).mono ?_;rintro e w2 ⟨hce,hb2⟩;have HB2:Hid (jG w2 lb mb vn n (qM l)/\Below w.heap.size w w2):=⟨HB.out.1.below hb2,HB.out.2.2.trans (hb2.mono HB.out.2.2.size)⟩;have HX:=Dr (l:=l) HR.out.1 HNE.out;have HXX:=aP (HR.out.2.2.2.trans HX);clear hb2 HX
   cases hcr:oQ rest with
   |none=>
    rw[hcr] at hce;obtain⟨C,b,hC1,hC2,rfl⟩:=hce
    have HE:Hid (iq t=(l,false)):=by have h:=HXX.out;rw[hcr] at h;exact h
    have HC:=aP (aK hC1 hC2);clear hcr HXX hC1 hC2
    go_wp2_with (first
     | (generalize Tryz.zeroCells372=Z at*;refine bU rfl 372 (.tmp 6) (.tmp 23) rfl w2.heap.size 0 C rfl rfl (bM (aW _ _ _ rfl) 0 _ (by rw[HC.out.1,HZ.out];decide)) (by rw[HC.out.1];exact HI.out) HC.out.2 ?_;refine dI ?_)
     |fail)
    have HW3:Hid (Below w2.heap.size w2 ((w2.alloc (.cells Z 372)).setCells w2.heap.size 0 C.toList)):=ji _ _ ((au _ _).alloc (ai _) _) (ai _);generalize (w2.alloc (.cells Z 372)).setCells w2.heap.size 0 C.toList=w3 at*;unfold Hid
    go_wp2_with fail
    go_ret2;refine⟨lb,mb,vn,n,?_,?_,?_,?_,HB.out.2.1,HB2.out.2.trans (HW3.out.mono HB2.out.2.size)⟩
    ·rw[HE.out];rfl
    ·rw[HE.out];exact HB2.out.1.below HW3.out
    ·have:=HR.out;omega
    rw[HE.out];have:=HR.out;show l.length<=_;omega
   |some x=>
    rw[hcr] at hce;obtain⟨r,b⟩:=x;obtain rfl:=hce;have hok:=NU hcr;have HOK:=aP hok
    have HE:Hid (iq t=mo (g-1) b (l++[r])):=by have h:=HXX.out;rw[hcr] at h;exact h
    have HC:Hid ((bE r).toArray.size=65/\(bE r).toArray.all (·.oneCell')=true):=⟨by rw[bT];exact iO hok.1,dY (lK r)⟩;have HRL:Hid ((bE r).toArray.toList=bE r):=rfl;clear hcr HXX hok;generalize (bE r).toArray=C at*
    go_wp2_with (first
     | (generalize hZZ:Tryz.zeroCells372=Z at*;refine bU rfl 372 (.tmp 6) (.tmp 23) rfl w2.heap.size 0 C rfl rfl (bM (aW _ _ _ rfl) 0 _ (by rw[HC.out.1,HZ.out];decide)) (by rw[HC.out.1];exact HI.out) HC.out.2 ?_;refine dI ?_)
     |fail)
    have HW3:Hid (Below w2.heap.size w2 ((w2.alloc (.cells Z 372)).setCells w2.heap.size 0 C.toList)/\((w2.alloc (.cells Z 372)).setCells w2.heap.size 0 C.toList).rangeAt w2.heap.size 0 C.toList):=⟨ji _ _ ((au _ _).alloc (ai _) _) (ai _),dW _ _ _ _ (bM (aW _ _ _ rfl) 0 _ (by rw[aR,HC.out.1,HZ.out];decide))⟩;generalize (w2.alloc (.cells Z 372)).setCells w2.heap.size 0 C.toList=w3 at*
    have HIC:Hid ((Tryz.prog.info? 372).map (·.size)=some C.toList.length):=by rw[aR,HC.out.1];exact HI.out
    have hcs:=HC.out.1;subst hZZ;unfold Hid
    go_wp2_with (first
     | (refine nX rfl 372 (.tmp 6) rfl w2.heap.size 0 rfl C.toList _ HW3.out.2 Tryz.underlying372 rfl HIC.out ?_;refine dI ?_)
     |fail)
    rw[cK];unfold Hid
    go_wp2_with fail
    rw[Kg C];rotate_left
    ·exact HC.out.1
    ·rfl
    have GY:Hid (Calls Tryz.prog 241 #[.pointer (some ⟨lb,0,none⟩),.slice (some ⟨w3.heap.size,0,none⟩) 1 1] (w3.alloc (.cells C 372)) fun e w'=>e=.returned (.tuple #[])/\∃Nv,jG w' lb mb Nv (n+1) (iY (qM l) r)/\(∀k,Nv.ownBlock=some k->vn.ownBlock=some k\/(w3.alloc (.cells C 372)).heap.size<=k)/\lm (oI lb mb vn) (w3.alloc (.cells C 372)) w'):=by
     have hb3:=HB2.out.1.below HW3.out.1;have hba:Below w3.heap.size w3 (w3.alloc (.cells C 372)):=(au _ _).alloc (ai _) _;refine KU (l:=[r]) (hb3.below hba) ⟨_,1,rfl,ai _,aL ⟨w3.heap.size,0,rfl,by rw[bJ];omega,fun k q hq j u hu=>?_⟩⟩ (fun q hq=>by rw[bg.1 hq];exact HOK.out.1) (aL fun a m c e hF=>?_) (by show 1<=_;omega) (by have:=HR.out;have:=HT.out;omega) (by rw[Aw];have:=HR.out;have:=HT.out;omega)
     ·obtain rfl:k=0:=by
       have:=(aJ.1 hq).1
       simp at this
       exact this
      obtain rfl:r=q:=by simpa using hq
      rw[bZ (aW w3 (.cells C 372) _ rfl),ql,bW,<-bV,HRL.out];exact hu
     injection e with e _ _;have e:=ak e;have h1:=hb3.lt a.block hF;rw[<-e] at h1;exact absurd h1 (FU _)
    have CX:Hid (Below w.heap.size w (w3.alloc (.cells C 372))):=(HB2.out.2.trans (HW3.out.1.mono HB2.out.2.size)).alloc (aA HB2.out.2.size HW3.out.1.size) _;clear HW3 HIC hcs HC;generalize w3.alloc (.cells C 372)=w4 at*;refine GY.out.mono ?_;rintro e w5 ⟨rfl,vn5,hb5,hg5,hm5⟩
    have HF:Hid (jG w5 lb mb vn5 (n+1) (qM (l++[r]))/\(∀k,oI lb mb vn5 k->w.heap.size<=k)/\Below w.heap.size w w5):=by
     refine⟨by rw[Zx];exact hb5,fun k hk=>?_,CX.out.trans (hm5.Ye CX.out.size HB.out.2.1)⟩
     rcases hk with q|q|q
     ·exact HB.out.2.1 k (aG q)
     ·exact HB.out.2.1 k (aL (aG q))
     rcases hg5 k q with q|q
     ·exact HB.out.2.1 k (aL (aL q))
     exact aA CX.out.size q
    clear hb5 hg5 hm5 GY CX
    go_wp2_with fail
    refine⟨⟨b,l++[r],g-1,n+1,vn5,rfl,rfl,?_,?_,?_,HE.out,HF.out⟩,HOK.out.2⟩
    ·have:=HOK.out.2;have:=HR.out;omega
    ·rw[aF];have:=HOK.out.2;have:=HR.out;show l.length+1+_<=_;omega
    rw[aF];have:=HR.out;show n+1=l.length+1;omega
 rw[ax hh,bH hh];have HE:Hid (iq t=([],false)):=ax hh;clear hh
 go_wp2_with fail
 go_ret2;refine⟨lb,mb,vn0,0,?_,?_,aN _,?_,HB1.out.2.1,HB1.out.2.2⟩
 ·rw[HE.out];rfl
 ·rw[HE.out];exact HB1.out.1
 rw[HE.out];exact aN _
end
theorem JV(n:Nat)(h:n<256)(b:ah):byteOf (⟨#[UInt8.ofNat n]⟩++b) 0=n:=by
 unfold byteOf;rw[zZ,Array.getElem?_append_left (show 0<1 from Nat.one_pos)];show(UInt8.ofNat n).toNat=n;rw[Vs,aaV h]
theorem QA(a b c:ah)(i j:Nat)(hi:i=a.size)(hj:j=a.size+b.size):(a++(b++c)).extract i j=b:=by
 subst hi hj;have h:=ByteArray.extract_append_size_add (a:=a) (b:=b++c) (i:=0) (j:=b.size);rw[kT] at h;rw[h,Yh rfl]
theorem Qa(body rest:ah)(hb:body.size<256):lW (⟨#[UInt8.ofNat body.size]⟩++(body++(lI body++rest)))=some (body,rest):=by
 have h0:=JV body.size hb (body++(lI body++rest));have h1:(ByteArray.mk #[UInt8.ofNat body.size]).size=1:=rfl;have hc:(lI body).size=4:=rfl
 have hs:(⟨#[UInt8.ofNat body.size]⟩++(body++(lI body++rest)):ah).size=1+(body.size+(4+rest.size)):=by
  rw[aH,aH,aH,h1,hc]
 have e1:(⟨#[UInt8.ofNat body.size]⟩++(body++(lI body++rest)):ah).extract 1 (1+body.size)=body:=QA _ _ _ _ _ h1.symm (by rw[h1])
 have e2:(⟨#[UInt8.ofNat body.size]⟩++(body++(lI body++rest)):ah).extract (1+body.size) (1+body.size+4)=lI body:=by
  rw[<-dH];exact QA _ _ _ _ _ (by rw[aH,h1]) (by rw[aH,h1,hc])
 have e3:(⟨#[UInt8.ofNat body.size]⟩++(body++(lI body++rest)):ah).extract (1+body.size+4) (1+(body.size+(4+rest.size)))=rest:=by
  rw[<-dH,<-dH];exact yu (by rw[aH,aH,h1,hc]) (by rw[aH,aH,h1,hc];omega)
 unfold lW;rw[h0,hs,ax (by omega),ax (by omega),e2,e1,e3,aD rfl]
variable {r:gm}
theorem Xf(h:lN r)(hn:eD r.name=true):pW (lV r)=some r:=by
 have hs:=Aj h
 have hb:lV r=⟨#[UInt8.ofNat r.name.size]⟩++(r.name++(r.sig++r.sum)):=by
  unfold lV;rw[dH,dH]
 have h1:(ByteArray.mk #[UInt8.ofNat r.name.size]).size=1:=rfl
 have h0:byteOf (lV r) 0=r.name.size:=by rw[hb];exact JV _ (by have:=h.name;omega) _
 have e1:(lV r).extract 1 ((lV r).size-64)=r.name:=by rw[hs,hb];exact QA _ _ _ _ _ h1.symm (by rw[h1];omega)
 have e2:(lV r).extract ((lV r).size-64) ((lV r).size-32)=r.sig:=by
  rw[hs,hb,<-dH];exact QA _ _ _ _ _ (by rw[aH,h1];omega) (by rw[aH,h1,h.sig];omega)
 have e3:(lV r).extract ((lV r).size-32) (lV r).size=r.sum:=by
  rw[hs,hb,<-dH,<-dH];exact yu (by rw[aH,aH,h1,h.sig];omega) (by rw[aH,aH,h1,h.sig,h.sum];omega)
 unfold pW;rw[ax (by omega),h0,ax (by omega),e1,e2,e3,aD hn]
theorem Sd(h:lN r)(hn:eD r.name=true)(rest:ah):oQ (zR r++rest)=some (r,rest):=by
 have e:zR r++rest=⟨#[UInt8.ofNat (lV r).size]⟩++(lV r++(lI (lV r)++rest)):=by
  unfold zR;rw[dH,dH]
 unfold oQ;rw[e,Qa _ _ (by have:=Aj h;have:=h.name;omega)];show(pW (lV r)).map _=_;rw[Xf h hn];rfl
theorem Dp:∀(l:List gm) (g:Nat) (acc:List gm),(∀r∈l,lN r/\eD r.name=true)->(fP l).size<=g->mo g (fP l) acc=(acc++l,true)
 |[],g,acc,_,_=>by rw[fF];exact Dq g _ acc rfl
 |r::l,g,acc,h,hg=>by
  have hr:=h r (aM ..);have hsz:(fP (r::l)).size=(zR r).size+(fP l).size:=aH;have h70:=OP hr.1;rw[Dr hg (by omega)];have e:fP (r::l)=zR r++fP l:=rfl;rw[e,Sd hr.1 hr.2];show mo (g-1) (fP l) (acc++[r])=_;rw[Dp l (g-1) (acc++[r]) (fun x hx=>h x (aU _ hx)) (by omega),eH];rfl
theorem QT(l:List gm)(h:∀r∈l,lN r/\eD r.name=true):iq (jm++fP l)=(l,true):=by
 have h1:jm.size=12:=rfl;unfold iq;rw[aD (Yh h1.symm),yu h1.symm (by rw[aH]),Dp l _ [] h (by rw[aH];omega),xw]
variable {t:ah}{j:Nat}
theorem DT{i k:Nat}(h1:i<=j)(h2:j<=k):t.extract i j++t.extract j k=t.extract i k:=by
 rw[Yi,lG h1,Nat.max_eq_right h2]
theorem Kj(t:ah)(h:0<t.size):t.extract 0 1=⟨#[UInt8.ofNat (byteOf t 0)]⟩:=by
 apply ByteArray.ext;rw[gq];unfold byteOf;have h':0<t.data.size:=h;rw[wB h',bY,UInt8.ofNat_toNat];apply Array.ext
 ·simp;omega
 intro i h1 h2
 simp at h2
 subst h2
 simp
variable {b rest:ah}
theorem RZ(h:lW t=some (b,rest)):t=⟨#[UInt8.ofNat b.size]⟩++b++lI b++rest:=by
 unfold lW at h
 split at h
 ·cases h
 rename_i h0
 split at h
 ·cases h
 rename_i h1
 split at h
 ·rename_i h2
  obtain⟨rfl,rfl⟩:=Prod.mk.inj (ak h)
  have hs:(t.extract 1 (1+byteOf t 0)).size=byteOf t 0:=by rw[aI];omega
  rw[hs,<-h2,<-Kj t (by omega),DT (by omega) (by omega),DT (by omega) (by omega),DT (by omega) (by omega),kr]
 cases h
theorem ZQ(h:pW b=some r):b=lV r/\eD r.name=true:=by
 unfold pW at h
 split at h
 ·cases h
 rename_i h0
 split at h
 ·cases h
 rename_i h1
 split at h
 ·rename_i h2
  obtain rfl:=ak h;refine⟨?_,h2⟩
  have hs:(b.extract 1 (b.size-64)).size=byteOf b 0:=by rw[aI];omega
  show b=⟨#[UInt8.ofNat (b.extract 1 (b.size-64)).size]⟩++b.extract 1 (b.size-64)++b.extract (b.size-64) (b.size-32)++b.extract (b.size-32) b.size;rw[hs,<-Kj b (by omega),DT (by omega) (by omega),DT (by omega) (by omega),DT (by omega) (by omega),kr]
 cases h
theorem JX(h:oQ t=some (r,rest)):t=zR r++rest/\lN r/\eD r.name=true:=by
 have hk:=(NU h).1;unfold oQ at h;obtain⟨y,hy,h⟩:=rq.1 h;obtain⟨r',hr,h⟩:=aX.1 h;obtain⟨rfl,rfl⟩:=Prod.mk.inj h;obtain⟨b,rest⟩:=y;obtain⟨e,hn⟩:=ZQ hr;refine⟨?_,hk,hn⟩;rw[RZ hy];unfold zR;rw[<-e]
theorem ZT(l l':List gm):fP (l++l')=fP l++fP l':=by
 induction l with
 |nil=>exact(ByteArray.empty_append).symm
 |cons r l ih=>
  show zR r++fP (l++l')=zR r++fP l++fP l';rw[ih,dH]
theorem Fv:∀(g:Nat) (t:ah) (acc l:List gm),mo g t acc=(l,true)->∃l',l=acc++l'/\t=fP l'/\∀r∈l',lN r/\eD r.name=true
 |0,t,acc,l,h=>by
  unfold mo at h;obtain⟨rfl,h⟩:=Prod.mk.inj h;exact⟨[],(fF _).symm,iD.1 (by simpa using h),fun r hr=>by cases hr⟩
 |g+1,t,acc,l,h=>by
  unfold mo at h
  split at h
  ·rename_i h0
   obtain⟨rfl,_⟩:=Prod.mk.inj h;exact⟨[],(fF _).symm,iD.1 h0,fun r hr=>by cases hr⟩
  split at h
  ·cases (Prod.mk.inj h).2
  rename_i x hx
  obtain⟨r,rest⟩:=x;obtain⟨l',rfl,e,ho⟩:=Fv g rest (acc++[r]) l h;obtain⟨h1,h2⟩:=JX hx;refine⟨r::l',by rw[eH];rfl,by rw[h1,e];rfl,fun q hq=>?_⟩
  rcases aV.1 hq with rfl|hq
  ·exact h2
  exact ho q hq
theorem Il:∀(g:Nat) (t:ah) (acc:List gm),(∀r∈acc,lN r/\eD r.name=true)->∀r∈(mo g t acc).1,lN r/\eD r.name=true
 |0,t,acc,h=>h
 |g+1,t,acc,h=>by
  unfold mo
  split
  ·exact h
  split
  ·exact h
  rename_i x hx
  obtain⟨r,rest⟩:=x;refine Il g rest _ (fun q hq=>?_)
  rcases bK.1 hq with hq|hq
  ·exact h q hq
  obtain rfl:=bg.1 hq;exact(JX hx).2
variable {l:List gm}
theorem Uj(h:iq t=(l,true)):t=jm++fP l:=by
 unfold iq at h
 split at h
 ·rename_i h0
  obtain⟨l',e,e2,ho⟩:=Fv _ _ _ _ h;rw[xw] at e;subst e
  have hs:12<=t.size:=by
   have:=gW ByteArray.size h0;rw[aI] at this;have h12:jm.size=12:=rfl;omega
  rw[<-e2,<-h0,DT (by omega) (by omega),kr]
 cases (Prod.mk.inj h).2
theorem Xd(t:ah):∀r∈(iq t).1,lN r/\eD r.name=true:=by
 unfold iq
 split
 ·exact Il _ _ _ (fun r hr=>by cases hr)
 intro r hr;cases hr
theorem Oc(x:ah):∀(l:List gm) (L:ku),(l.map (·.name)).Nodup->(l.foldl iY L).last x=((l.find? fun r=>decide (r.name=x)).map some).getD (L.last x)
 |[],L,_=>rfl
 |r::l,L,h=>by
  rw[mD,nk] at h;rw[jr,Oc x l _ h.2,List.find?_cons]
  by_cases q:r.name=x
  ·rw[bN q]
   have hn:l.find? (fun r=>decide (r.name=x))=none:=by
    rw[Dy];intro s hs;simp only[kW];intro e;exact h.1 (fH.2 ⟨s,hs,e.trans q.symm⟩)
   rw[hn];show(if x=r.name then some r else L.last x)=some r;rw[aD q.symm]
  rw[bH q];have e:(iY L r).last x=L.last x:=ax (fun e=>q e.symm);rw[e]
theorem Kl:∀(l:List gm) (L:ku),(l.map (·.name)).Nodup->(∀r∈l,L.last r.name=none)->(l.foldl iY L).names=L.names++l.map (·.name)
 |[],L,_,_=>by rw[CR,fF];rfl
 |r::l,L,h,hl=>by
  rw[mD,nk] at h;have h0:=hl r (aM ..);have e:(iY L r).names=L.names++[r.name]:=ax (by rw[h0];exact eX);rw[jr,Kl l _ h.2 (fun s hs=>?_),e,eH]
  ·rfl
  show(if s.name=r.name then some r else L.last s.name)=none;rw[ax (fun q=>h.1 (fH.2 ⟨s,hs,q⟩))];exact hl s (aU _ hs)
variable {L:ku}
theorem Tt(h:wR L):(jZ L).map (·.name)=L.names:=by
 unfold jZ
 have g:∀l:List ah,(∀x∈l,(L.last x).isSome=true)->(l.filterMap L.last).map (·.name)=l:=by
  intro l
  induction l with
  |nil=>intro _;rfl
  |cons x l ih=>
   intro hl;obtain⟨r,hr⟩:=fI.1 (hl x (aM ..));rw[Ck,hr,mD,ih (fun y hy=>hl y (aU _ hy)),h.own x r hr]
 exact g L.names (fun x hx=>(h.has x).1 hx)
theorem WC(h:wR L):(qM (jZ L)).last=L.last/\(qM (jZ L)).names=L.names/\(qM (jZ L)).count=L.names.length:=by
 have hn:=Tt h
 have hnd:((jZ L).map (·.name)).Nodup:=by rw[hn];exact h.nd
 refine⟨?_,?_,?_⟩
 ·funext x
  unfold qM;rw[Oc x _ _ hnd];show((List.find? _ (jZ L)).map some).getD none=L.last x
  cases hx:L.last x with
  |none=>
   have e:(jZ L).find? (fun r=>decide (r.name=x))=none:=by
    rw[Dy];intro s hs;simp only[kW];intro q;obtain⟨y,_,hy⟩:=jo.1 hs;have:=h.own y s hy;rw[<-this,q,hx] at hy
    cases hy
   rw[e];rfl
  |some r=>
   have hm:r∈jZ L:=jo.2 ⟨x,(h.has x).2 (by rw[hx];rfl),hx⟩
   cases hf:(jZ L).find? (fun r=>decide (r.name=x)) with
   |none=>
    rw[Dy] at hf;exact absurd (bN (h.own x r hx)) (hf r hm)
   |some s=>
    have h0:=List.find?_some hf
    have h1:s.name=x:=by simpa using h0
    obtain⟨y,_,hy⟩:=jo.1 (pV hf);have h2:=h.own y s hy;rw[<-h2,h1,hx] at hy;rw[ak hy];rfl
 ·unfold qM;rw[Kl _ _ hnd (fun _ _=>rfl)];show []++_=_;rw[xw,hn]
 rw[Aw,<-hn,jR]
