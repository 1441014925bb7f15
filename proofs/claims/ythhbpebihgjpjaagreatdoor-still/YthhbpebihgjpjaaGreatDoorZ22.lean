import Derived.Test.YthhbpebihgjpjaaGreatDoorZ21
import Derived.Lib.AppendZeros
namespace Go.Proofs.YthhbpebihgjpjaaGreatDoor
set_option maxRecDepth 1000000
set_option maxHeartbeats 20000000
set_option linter.all false
section
open Go.RowKit Go.Maps
variable {B:Nat}{w:ak}
theorem lF.Yf{F:Nat->Prop}{w':ak}(h:lF F w w')(hB:B<=w.heap.size)(hF:∀k,F k->B<=k):Below B w w':=h.below (ay B w) hB hF
variable {v:Value}{l:List gG}
theorem BV(hr:sG w v l)(hro:∀r∈l,lU r)(hl:l.length<=1000000000000):
  Calls Tryz.prog 175 #[v] w fun e w'=>∃lb mb vn,e=.returned (.pointer (some ⟨lb,0,none⟩))/\jK w' lb mb vn l.length (qQ l)/\(∀k,oJ lb mb vn k->w.heap.size<=k)/\Below w.heap.size w w':=by
 obtain⟨W1,hW1⟩:∃W1,W1=(w.alloc (.map #[] 0)).alloc (.cells #[.int .i64 0,.slice none 0 0,.map (some w.heap.size)] 270):=⟨_,rfl⟩;have hsz:(w.alloc (.map #[] 0)).heap.size=w.heap.size+1:=bO _ _
 have hB1:Below w.heap.size w W1:=by rw[hW1];exact((ay _ _).alloc (ai _) _).alloc aJ _
 have hbk:jK W1 (w.heap.size+1) w.heap.size (.slice none 0 0) 0 kD.none:=by
  refine⟨by rw[hW1];exact bq _ _ _ hsz.symm,dK _ _ _ _,?_,wU.none,fun x r h=>absurd h.symm (RN _)⟩;have h:=eu.made GJ (.agg Tryz.zeroCells372) ZQ w;rw[hW1];exact eu.keep h (bC _ _ _ aJ)
 have HN:Hid (Calls Tryz.prog 241 #[.pointer (some ⟨w.heap.size+1,0,none⟩),v] W1 fun e w'=>e=.returned (.tuple #[])/\∃Ny,jK w' (w.heap.size+1) w.heap.size Ny (0+l.length) (l.foldl jd kD.none)/\(∀k,Ny.ownBlock=some k->(Value.slice none 0 0).ownBlock=some k\/W1.heap.size<=k)/\lF (oJ (w.heap.size+1) w.heap.size (.slice none 0 0)) W1 w'):=by
  refine KU hbk (hr.keep hB1) hro ?_ hl aJ (by show 0<=_;omega);obtain⟨ao,cap,rfl,_,h|⟨g,o,rfl,hg,_⟩⟩:=hr
  ·exact aK h
  refine aP fun a m c e h=>?_
  injection e with e _ _;have e:=ax e;subst e
  rcases h with q|q|q
  ·have q:g=w.heap.size+1:=q;omega
  ·have q:g=w.heap.size:=q;omega
  cases q
 have HF:Hid (∀k,oJ (w.heap.size+1) w.heap.size (.slice none 0 0) k->w.heap.size<=k):=fun k hk=>by
  rcases hk with q|q|q
  ·omega
  ·omega
  cases q
 have HB1:=aV hB1
 have hmk:(Instr.makeMap 268 none).run Tryz.prog w=.ok (.map (some w.heap.size)) (w.alloc (.map #[] 0)):=by simp[Instr.makeMap,go_sem]
 obtain⟨ao,cap,rfl,_,_⟩:=hr;have HW1:=aV hW1;generalize Qp:l.length=LL at*;clear hW1 hB1 hbk hro Qp
 go_enter Tryz.func175,Tryz.ntmps175
 go_wp2_with fail
 rw[<-HW1.out];refine HN.out.mono ?_;rintro e w2 ⟨rfl,vn,hb2,hg2,hm2⟩
 have HE:Hid (jK w2 (w.heap.size+1) w.heap.size vn LL (qQ l)/\(∀k,oJ (w.heap.size+1) w.heap.size vn k->w.heap.size<=k)/\Below w.heap.size w w2):=by
  rw[dh] at hb2;refine⟨hb2,fun k hk=>?_,HB1.out.trans (hm2.Yf HB1.out.size HF.out)⟩
  rcases hk with q|q|q
  ·omega
  ·omega
  rcases hg2 k q with q|q
  ·cases q
  exact aC HB1.out.size q
 clear hb2 hg2 hm2 HN hmk
 go_wp2_with fail
 go_ret;exact⟨_,_,vn,rfl,HE.out⟩
theorem Og(off:Nat):∀(l:List Value) (k:Nat) (c:Array Value),off+k+l.length<=c.size->((l.zipIdx k).foldl (fun cs x=>cs.setIfInBounds (off+x.2) x.1) c).toList=c.toList.take (off+k)++l++c.toList.drop (off+k+l.length)
 |[],k,c,h=>by
  show c.toList=_;rw[fM];exact(MO _ _).symm
 |x::l,k,c,h=>by
  rw[aY] at h;rw[List.zipIdx_cons,jA,Og off l (k+1) _ (by rw[FN];omega)];rw[Dx]
  have hk:off+k<c.toList.length:=by rw[aX];omega
  have e1:(c.toList.set (off+k) x).take (off+(k+1))=c.toList.take (off+k)++[x]:=by
   rw[show off+(k+1)=off+k+1 by omega,dU,sD hk,List.take_set_of_le (ai _)];rfl
  have e2:(c.toList.set (off+k) x).drop (off+(k+1)+l.length)=c.toList.drop (off+k+(x::l).length):=by
   rw[List.drop_set_of_lt aJ,aY]
   congr 1
   omega
  rw[e1,e2,eZ,eZ,eZ];rfl
theorem Cs(off:Nat)(a c:Array Value)(h:off+a.size<=c.size):a.zipIdx.foldl (fun cs (x:Value×Nat)=>cs.setIfInBounds (off+x.2) x.1) c=(c.toList.take off++a.toList++c.toList.drop (off+a.size)).toArray:=by
 apply fJ.1;rw[<-Array.foldl_toList,Array.toList_zipIdx,Og off a.toList 0 c (by rw[aX];omega)]
 simp
theorem VX(a c:Array Value)(h:a.size=c.size):Array.foldl (fun cs (x:Value×Nat)=>cs.setIfInBounds x.2 x.1) c a.zipIdx 0 a.size=a:=by
 have e:=Cs 0 a c aJ;simp only[dh] at e;rw[DF,xD,kV (by rw[aX];omega),fM,dw] at e
 have hz:a.zipIdx.size=a.size:=eB
 rw[hz] at e;exact e
theorem Kg(a c:Array Value)(h:a.size=65)(hc:c.size=65):Array.foldl (fun cs (x:Value×Nat)=>cs.setIfInBounds x.2 x.1) c a.zipIdx 0 65=a:=by
 have e:=VX a c (h.trans hc.symm);rw[h] at e;exact e
theorem XT:∀(l:List gG) (k j:Nat) (r:gG) (u:Value),(∀r∈l,(bJ r).length=65)->l[k]?=some r->(bJ r)[j]?=some u->(l.flatMap bJ)[k*65+j]?=some u
 |[],_,_,_,_,_,h,_=>by simp at h
 |x::l,0,j,r,u,hl,h,hu=>by
  obtain rfl:x=r:=by simpa using h
  rw[ng,bW (by have:=(aN.1 hu).1;omega),qo,dh];exact hu
 |x::l,k+1,j,r,u,hl,h,hu=>by
  have hx:=hl x (aQ ..);rw[ng,dz aJ,hx,show(k+1)*65+j-65=k*65+j by omega];exact XT l k j r u (fun r hr=>hl r (aZ _ hr)) (by simpa using h) hu
variable {n:Nat}
theorem BZ(h:w.ownsRow B 372 65 v n (l.flatMap bJ))(hn:l.length=n)(hl:∀r∈l,lU r):sG w v l:=by
 subst hn;obtain⟨ao,cap,rfl,hc,hg⟩:=bE h
 cases l with
 |nil=>exact⟨ao,cap,rfl,hc,aK rfl⟩
 |cons x q=>
  obtain⟨g,rfl⟩:=hg (Nat.succ_pos _);refine⟨_,cap,rfl,hc,aP ⟨g,0,rfl,(bF h g rfl).2,fun k r hr j u hu=>?_⟩⟩;rw[dh];exact(dV h _ u (XT _ k j r u (fun r hr=>iV (hl r hr)) hr hu)).1
variable {L:kD}{j:Nat}{r:gG}
theorem KM{x:ah}(hx:L.names[j]?=some x)(hr:L.last x=some r):(L.names.take (j+1)).filterMap L.last=(L.names.take j).filterMap L.last++[r]:=by
 rw[dU,hx,lX,MJ,Cn,hr];rfl
theorem Ff(h:wU L):∀j,j<=L.names.length->((L.names.take j).filterMap L.last).length=j
 |0,_=>rfl
 |j+1,hj=>by
  obtain⟨x,hx⟩:∃x,L.names[j]?=some x:=⟨L.names[j]' aJ,eB⟩;obtain⟨r,hr⟩:=fQ.1 ((h.has x).1 (aU hx));rw[KM hx hr,aI,Ff h j aJ];rfl
theorem IX{lb mb:Nat}{vn:Value}(h:jK w lb mb vn n L)(hc:L.count<=1000000000000):
  Calls Tryz.prog 171 #[.pointer (some ⟨lb,0,none⟩)] w fun e w'=>∃v,e=.returned v/\sG w' v (kr L)/\(∀k,v.ownBlock=some k->w.heap.size<=k)/\Below w.heap.size w w':=by
 have hinf:(Tryz.prog.info? 372).map (fun i=>(i.size,i.bytes,i.zero))=some (65,80,some (.agg Tryz.zeroCells372)):=dD
 obtain⟨ti,hti,htj⟩:=bA.1 hinf;simp only[Prod.mk.injEq] at htj;have hnl:L.names.length<=1000000000000:=aC h.ok.le hc;obtain⟨w2,hmk,ho,hg⟩:=run_make_own (P:=Tryz.prog) w w.heap.size 271 372 ti _ 65 Tryz.underlying271 hti htj.2.2 htj.1 .i64 .i64 L.names.length (by rw[htj.2.1];omega) (by unfold maxLen;omega) (ai _)
 have hzs:(Value.agg Tryz.zeroCells372).cells.size=65:=dD
 have HTI:=aV (aO hti (aO htj.1 (aO htj.2.1 (aO htj.2.2 hzs))));have HB:=aV h;have HB2:Hid (Below w.heap.size w w2):=(ay _ _).grown hg (ai _) (fun k hk=>by cases hk);obtain⟨aoN,VG,hvn,_,hgN⟩:=bE h.names;have HGN:=aV hgN;generalize hNL:L.names.length=NL at*;have CZ:=aV hNL;subst hvn
 have c1:w.cell? ⟨lb,1,none⟩=some (.slice aoN NL VG):=by rw[aj _ _ _ _ _ _ h.row];rfl
 have c1b:w2.cell? ⟨lb,1,none⟩=some (.slice aoN NL VG):=(HB2.out.cell (p:=⟨lb,1,none⟩) (aG c1)).trans c1;have HO:=aV ho
 have nl0:(NL:Int)<=1000000000000:=aJ
 clear hinf hti htj hzs ho hg h hgN hc hNL
 go_enter Tryz.func171,Tryz.ntmps171
 go_wp2_with fail
 clear c1 c1b hmk
 go_loopw [3,17] (fun v i wr=>∃(j cap:Nat) (ao:Option Addr),i=.int .i64 j/\v=.slice ao j cap/\j<=NL/\wr.ownsRow w.heap.size 372 65 (.slice ao j cap) j (((L.names.take j).filterMap L.last).flatMap bJ)/\Below w.heap.size w wr) (fun _ i _=>NL-(intOf i).toNat)
 case atStart=>exact⟨0,NL,_,rfl,rfl,aS _,HO.out,HB2.out⟩
 case round=>
  clear HO HB2;obtain⟨j,cap,ao,rfl,rfl,hj,hrow,hbl⟩:=hrel;have HR:=aV (aO hrow hbl)
  have j0:(0:Int)<=(j:Int):=aJ
  by_cases hlt:j<NL
  ·have j1:(j:Int)<(NL:Int):=aJ
   obtain⟨gN,rfl⟩:=HGN.out aJ;obtain⟨x,hx⟩:∃x,L.names[j]?=some x:=⟨L.names[j]'(by have:=CZ.out;omega),eB⟩;have hbk:=HB.out.below hbl;obtain⟨r,hr⟩:=fQ.1 ((HB.out.ok.has x).1 (aU hx));have hro:=HB.out.recs x r hr
   have cx:wr.cell? ⟨gN,j,none⟩=some (.string x):=by
    have h1:=hbk.names;rw[CZ.out] at h1;exact(dV h1 j _ (by rw[dS,hx];rfl)).1
   have c2:wr.cell? ⟨lb,2,none⟩=some (.map (some mb)):=by rw[aj _ _ _ _ _ _ hbk.row];rfl
   have hxs:x.size<=32:=by rw[<-HB.out.ok.own x r hr];exact hro.name
   have hlk:=hbk.last.look (t:=268) Tryz.underlying268 yV x (by unfold maxLen;omega);rw[show(yI L x).getD (.agg Tryz.zeroCells372)=.agg (bJ r).toArray by unfold yI;rw[hr];rfl] at hlk;have Ew:=aV (KM hx hr);have Bt:Hid ((bJ r).toArray.size=65/\(bJ r).toArray.all (·.oneCell')=true/\(bJ r).toArray.toList=bJ r):=⟨by rw[bZ];exact iV hro,eH (lS r),rfl⟩;generalize (bJ r).toArray=RC at*
   have HA:Hid ((wr.alloc (.cells RC 372)).ownsRow w.heap.size 372 65 (.slice ao j cap) j (((L.names.take j).filterMap L.last).flatMap bJ)/\Below w.heap.size w (wr.alloc (.cells RC 372))/\∀i u,RC.toList[i]?=some u->(wr.alloc (.cells RC 372)).cell? ((⟨wr.heap.size,0,none⟩:Addr).add i)=some u):=⟨dR hrow (fun k hk=>bC _ _ k (bF hrow k hk).2),hbl.alloc hbl.size _,by
    have h:=iM wr RC.toList 372;rw[dw] at h
    exact h⟩
   have hrs:=Bt.out.1;clear hrow hbl hbk hr hro hx hxs
   go_wp2_with (at_builtin;rw[Kg RC _ Bt.out.1];rotate_left;rfl;refine wpList_append_lies _ rfl (.tmp 21) (.tmp 28) 271 rfl w.heap.size 372 ti (.agg Tryz.zeroCells372) 65 80 Tryz.underlying271 HTI.out.1 HTI.out.2.2.2.1 HTI.out.2.1 HTI.out.2.2.1 HTI.out.2.2.2.2 bS _ j _ rfl HA.out.1 ⟨wr.heap.size,0,none⟩ 1 1 RC.toList rfl (by rw[aX,Bt.out.1]) HA.out.2.2 (fun u hu=>kU.1 Bt.out.2.1 u (uS.1 hu)) bS (by unfold maxLen;omega) aJ HA.out.2.1.size _ rfl ?_;intro g7 lW w7 hv7 wW rF xu;refine dO ?_)
   have HF:Hid (w7.ownsRow w.heap.size 372 65 (.slice (some ⟨g7,0,none⟩) (j+1) lW) (j+1) (((L.names.take (j+1)).filterMap L.last).flatMap bJ)/\Below w.heap.size w w7):=by
    refine⟨?_,HA.out.2.1.grown wW HA.out.2.1.size (fun k hk=>(bF HA.out.1 k hk).1)⟩;rw[Ew.out,lC,List.flatMap_singleton,<-Bt.out.2.2];exact hv7
   clear hv7 wW rF xu HA hlk hrs;unfold Hid
   go_wp2_with fail
   exact⟨⟨j+1,lW,some ⟨g7,0,none⟩,oW,rfl,aJ,HF.out⟩,by simp[intOf];omega⟩
  obtain rfl:j=NL:=aJ
  have HFIN:Hid (sG wr (.slice ao j cap) (kr L)):=by
   have h1:=HR.out.1;rw[bK (dG CZ.out)] at h1;have h2:=Ff HB.out.ok L.names.length (ai _);rw[rz] at h2;refine BZ h1 (h2.trans CZ.out) (fun r hr=>?_);obtain⟨x,_,hx⟩:=jw.1 hr;exact HB.out.recs x r hx
  have HFB:Hid (∀k,(Value.slice ao j cap).ownBlock=some k->w.heap.size<=k):=fun k hk=>(bF HR.out.1 k hk).1
  clear hrow
  go_wp2
  go_ret;exact⟨_,rfl,HFIN.out,HFB.out,HR.out.2⟩
end
section
open Go.RowKit Go.Maps Go.Shelf
variable {b:ah}{r:gG}
theorem ab2(hr:qb b=some r):lU r:=by
 unfold qb at hr
 split at hr
 ·cases hr
 split at hr
 ·cases hr
 split at hr
 ·rename_i h1 h2 h3
  have h:=(fI h3).2.1;rw[<-ax hr];refine⟨h,?_,?_⟩
  ·show(b.extract (b.size-64) (b.size-32)).size=32;rw[aM];omega
  show(b.extract (b.size-32) b.size).size=32;rw[aM];omega
 cases hr
variable {t:ah}
theorem NW{x:gG×ah}(h:oU t=some x):lU x.1/\x.2.size<t.size:=by
 unfold oU at h;obtain⟨y,hy,h⟩:=rC.1 h;obtain⟨r,hr,rfl⟩:=bA.1 h;refine⟨ab2 hr,?_⟩;unfold mg at hy
 split at hy
 ·cases hy
 split at hy
 ·cases hy
 split at hy
 ·rw[<-ax hy];show(t.extract _ t.size).size<t.size;rw[aM];omega
 cases hy
theorem Si(t:ah)(w:ak):
  Calls Tryz.prog 239 #[.string t,.string jv] w fun e w'=>e=.returned (.tuple #[.string (if t.extract 0 12=jv then t.extract 12 t.size else t),.bool (decide (t.extract 0 12=jv))])/\w'=w:=by
 have h:=Any.strings_CutPrefix Tryz.lays103 t jv w;have e0:jv.size=12:=rfl
 have hq:((t.extract 0 jv.size).toList==jv.toList)=decide (t.extract 0 12=jv):=by
  rw[e0]
  by_cases q:t.extract 0 12=jv
  ·rw[q];simp
  rw[bM q,lD];intro e;refine q (ByteArray.ext (fJ.1 ?_));rw[eG,eG] at e;exact e
 refine h.mono ?_;rintro e w' ⟨rfl,rfl⟩;refine⟨?_,rfl⟩;rw[<-Lib.hasPrefix_raw,hq]
 by_cases q:t.extract 0 12=jv
 ·have hs:jv.size<=t.size:=by
   have h:=ig ByteArray.size q;rw[aM,e0] at h;rw[e0];omega
  rw[Lib.trimPrefix_hit t jv hs (by rw[hq,bT q]),aH q,bT hs];rfl
 rw[Lib.trimPrefix_miss t jv (by rw[hq,bM q,Po]),aA q,bM q,Po]
theorem Dr(g:Nat)(t:ah)(l:List gG)(h:t.size=0):mF g t l=(l,true):=by
 cases g with
 |zero=>show(l,t.size==0)=_;rw[h];rfl
 |succ g=>exact aH h
variable {l:List gG}
theorem Dt{g:Nat}(h:t.size<=g)(h0:t.size≠0):mF g t l=(match oU t with|none=>(l,false)|some x=>mF (g-1) x.2 (l++[x.1])):=by
 cases g with
 |zero=>omega
 |succ g=>exact aA h0
theorem Ul(t:ah)(ht:t.size<=1000000)(w:ak):
  Calls Tryz.prog 162 #[.string t] w fun e w'=>∃lb mb vn n,e=.returned (.tuple #[.pointer (some ⟨lb,0,none⟩),.bool (iC t).2])/\jK w' lb mb vn n (qQ (iC t).1)/\n<=t.size/\(iC t).1.length<=t.size/\(∀k,oJ lb mb vn k->w.heap.size<=k)/\Below w.heap.size w w':=by
 have HN:Hid (Calls Tryz.prog 175 #[.slice none 0 0] w fun e w'=>∃lb mb vn,e=.returned (.pointer (some ⟨lb,0,none⟩))/\jK w' lb mb vn 0 (qQ [])/\(∀k,oJ lb mb vn k->w.heap.size<=k)/\Below w.heap.size w w'):=BV (l:=[]) ⟨none,0,rfl,ai _,aK rfl⟩ (fun r hr=>absurd hr dH) (aS _)
 have HCH:Hid (∀wx,Calls Tryz.prog 239 #[.string t,.string ⟨#[98,117,105,108,100,101,114,108,111,103,49,10]⟩] wx fun e w'=>e=.returned (.tuple #[.string (if t.extract 0 12=jv then t.extract 12 t.size else t),.bool (decide (t.extract 0 12=jv))])/\w'=wx):=fun wx=>Si t wx
 have HI:Hid ((Tryz.prog.info? 372).map (·.size)=some 65):=by unfold Hid;kernel_rfl
 have HZ:Hid (Tryz.zeroCells372.size=65):=by unfold Hid;kernel_rfl
 have HT:=aV ht;clear ht
 go_enter Tryz.func162,Tryz.ntmps162
 go_wp2_with fail
 refine HN.out.mono ?_;rintro e w1 ⟨lb,mb,vn0,rfl,hbk,hfr,hb1⟩;have HB1:=aV (aO hbk (aO hfr hb1));clear hbk hfr hb1 HN
 go_wp2_with fail
 refine(HCH.out w1).mono ?_;rintro e y ⟨rfl,hy⟩;rw[hy];clear hy HCH
 by_cases hh:t.extract 0 12=jv
 ·rw[aH hh,bT hh];have HR:Hid (iC t=mF t.size (t.extract 12 t.size) []):=aH hh
  have wX:Hid ((t.extract 12 t.size).size<=t.size):=by show _<=_;rw[aM];omega
  clear hh;generalize t.extract 12 t.size=t0 at*
  go_wp2_with fail
  go_loopw [2,4] (fun p v wr=>∃(rest:ah) (l:List gG) (g n:Nat) (vn:Value),p=.pointer (some ⟨lb,0,none⟩)/\v=.string rest/\rest.size<=g/\l.length+rest.size<=t.size/\n=l.length/\iC t=mF g rest l/\jK wr lb mb vn n (qQ l)/\(∀k,oJ lb mb vn k->w.heap.size<=k)/\Below w.heap.size w wr) (fun _ v _=>Ri v)
  case atStart=>exact⟨t0,[],t.size,0,vn0,rfl,rfl,wX.out,by rw[dY,dh];exact wX.out,rfl,HR.out,HB1.out⟩
  case round=>
   clear HR wX HB1;obtain⟨rest,l,g,n,vn,rfl,rfl,hg,hlr,hn,hrr,hbk,hfr,hbl⟩:=hrel;have HB:=aV (aO hbk (aO hfr hbl));have HR:=aV (aO hg (aO hlr (aO hn hrr)));clear hg hlr hn hrr hbk hfr hbl
   by_cases h0:rest.size=0
   ·obtain rfl:rest=⟨#[]⟩:=by
     obtain⟨d⟩:=rest;have:d=#[]:=aaA h0;rw[this]
    have HE:Hid (iC t=(l,true)):=HR.out.2.2.2.trans (Dr _ _ _ rfl);clear h0
    go_wp2_with fail
    go_ret2;refine⟨lb,mb,vn,n,?_,?_,?_,?_,HB.out.2.1,HB.out.2.2⟩
    ·rw[HE.out];rfl
    ·rw[HE.out];exact HB.out.1
    ·have:=HR.out;omega
    rw[HE.out];have:=HR.out;show l.length<=_;omega
   have hne:(rest.toList==[])=false:=by
    rw[lD];intro e;rw[eG] at e;exact h0 (by have:=ig List.length e;simpa using this)
   have HNE:=aV h0;have HS:Hid (Ri (.string rest)=rest.size):=rfl;clear h0
   go_wp2_with fail
   refine(MW rest (by have:=HR.out;have:=HT.out;omega) wr).mono ?_;rintro e w2 ⟨hce,hb2⟩;have HB2:Hid (jK w2 lb mb vn n (qQ l)/\Below w.heap.size w w2):=⟨HB.out.1.below hb2,HB.out.2.2.trans (hb2.mono HB.out.2.2.size)⟩;have HX:=Dt (l:=l) HR.out.1 HNE.out;have HXX:=aV (HR.out.2.2.2.trans HX);clear hb2 HX
   cases hcr:oU rest with
   |none=>
    rw[hcr] at hce;obtain⟨C,b,hC1,hC2,rfl⟩:=hce
    have HE:Hid (iC t=(l,false)):=by have h:=HXX.out;rw[hcr] at h;exact h
    have HC:=aV (aO hC1 hC2);clear hcr HXX hC1 hC2
    go_wp2_with (first
     | (generalize Tryz.zeroCells372=Z at*;refine cK rfl 372 (.tmp 6) (.tmp 23) rfl w2.heap.size 0 C rfl rfl (bR (bq _ _ _ rfl) 0 _ (by rw[HC.out.1,HZ.out];decide)) (by rw[HC.out.1];exact HI.out) HC.out.2 ?_;refine dO ?_)
     |fail)
    have HW3:Hid (Below w2.heap.size w2 ((w2.alloc (.cells Z 372)).setCells w2.heap.size 0 C.toList)):=jo _ _ ((ay _ _).alloc (ai _) _) (ai _);generalize (w2.alloc (.cells Z 372)).setCells w2.heap.size 0 C.toList=w3 at*;unfold Hid
    go_wp2_with fail
    go_ret2;refine⟨lb,mb,vn,n,?_,?_,?_,?_,HB.out.2.1,HB2.out.2.trans (HW3.out.mono HB2.out.2.size)⟩
    ·rw[HE.out];rfl
    ·rw[HE.out];exact HB2.out.1.below HW3.out
    ·have:=HR.out;omega
    rw[HE.out];have:=HR.out;show l.length<=_;omega
   |some x=>
    rw[hcr] at hce;obtain⟨r,b⟩:=x;obtain rfl:=hce;have hok:=NW hcr;have HOK:=aV hok
    have HE:Hid (iC t=mF (g-1) b (l++[r])):=by have h:=HXX.out;rw[hcr] at h;exact h
    have HC:Hid ((bJ r).toArray.size=65/\(bJ r).toArray.all (·.oneCell')=true):=⟨by rw[bZ];exact iV hok.1,eH (lS r)⟩;have HRL:Hid ((bJ r).toArray.toList=bJ r):=rfl;clear hcr HXX hok;generalize (bJ r).toArray=C at*
    go_wp2_with (first
     | (generalize hZZ:Tryz.zeroCells372=Z at*;refine cK rfl 372 (.tmp 6) (.tmp 23) rfl w2.heap.size 0 C rfl rfl (bR (bq _ _ _ rfl) 0 _ (by rw[HC.out.1,HZ.out];decide)) (by rw[HC.out.1];exact HI.out) HC.out.2 ?_;refine dO ?_)
     |fail)
    have HW3:Hid (Below w2.heap.size w2 ((w2.alloc (.cells Z 372)).setCells w2.heap.size 0 C.toList)/\((w2.alloc (.cells Z 372)).setCells w2.heap.size 0 C.toList).rangeAt w2.heap.size 0 C.toList):=⟨jo _ _ ((ay _ _).alloc (ai _) _) (ai _),eF _ _ _ _ (bR (bq _ _ _ rfl) 0 _ (by rw[aX,HC.out.1,HZ.out];decide))⟩;generalize (w2.alloc (.cells Z 372)).setCells w2.heap.size 0 C.toList=w3 at*
    have HIC:Hid ((Tryz.prog.info? 372).map (·.size)=some C.toList.length):=by rw[aX,HC.out.1];exact HI.out
    have hcs:=HC.out.1;subst hZZ;unfold Hid
    go_wp2_with (first
     | (refine nY rfl 372 (.tmp 6) rfl w2.heap.size 0 rfl C.toList _ HW3.out.2 Tryz.underlying372 rfl HIC.out ?_;refine dO ?_)
     |fail)
    rw[dw];unfold Hid
    go_wp2_with fail
    rw[Kg C];rotate_left
    ·exact HC.out.1
    ·rfl
    have GZ:Hid (Calls Tryz.prog 241 #[.pointer (some ⟨lb,0,none⟩),.slice (some ⟨w3.heap.size,0,none⟩) 1 1] (w3.alloc (.cells C 372)) fun e w'=>e=.returned (.tuple #[])/\∃Ny,jK w' lb mb Ny (n+1) (jd (qQ l) r)/\(∀k,Ny.ownBlock=some k->vn.ownBlock=some k\/(w3.alloc (.cells C 372)).heap.size<=k)/\lF (oJ lb mb vn) (w3.alloc (.cells C 372)) w'):=by
     have hb3:=HB2.out.1.below HW3.out.1;have hba:Below w3.heap.size w3 (w3.alloc (.cells C 372)):=(ay _ _).alloc (ai _) _;refine KU (l:=[r]) (hb3.below hba) ⟨_,1,rfl,ai _,aP ⟨w3.heap.size,0,rfl,by rw[bO];omega,fun k q hq j u hu=>?_⟩⟩ (fun q hq=>by rw[bD.1 hq];exact HOK.out.1) (aP fun a m c e hF=>?_) (by show 1<=_;omega) (by have:=HR.out;have:=HT.out;omega) (by rw[Az];have:=HR.out;have:=HT.out;omega)
     ·obtain rfl:k=0:=by
       have:=(aN.1 hq).1
       simp at this
       exact this
      obtain rfl:r=q:=by simpa using hq
      rw[aj _ _ _ _ _ _ (bq w3 (.cells C 372) _ rfl),qo,dh,<-cZ,HRL.out];exact hu
     injection e with e _ _;have e:=ax e;have h1:=hb3.lt a.block hF;rw[<-e] at h1;exact absurd h1 (FW _)
    have CY:Hid (Below w.heap.size w (w3.alloc (.cells C 372))):=(HB2.out.2.trans (HW3.out.1.mono HB2.out.2.size)).alloc (aC HB2.out.2.size HW3.out.1.size) _;clear HW3 HIC hcs HC;generalize w3.alloc (.cells C 372)=w4 at*;refine GZ.out.mono ?_;rintro e w5 ⟨rfl,vn5,hb5,hg5,hm5⟩
    have HF:Hid (jK w5 lb mb vn5 (n+1) (qQ (l++[r]))/\(∀k,oJ lb mb vn5 k->w.heap.size<=k)/\Below w.heap.size w w5):=by
     refine⟨by rw[Zy];exact hb5,fun k hk=>?_,CY.out.trans (hm5.Yf CY.out.size HB.out.2.1)⟩
     rcases hk with q|q|q
     ·exact HB.out.2.1 k (aK q)
     ·exact HB.out.2.1 k (aP (aK q))
     rcases hg5 k q with q|q
     ·exact HB.out.2.1 k (aP (aP q))
     exact aC CY.out.size q
    clear hb5 hg5 hm5 GZ CY
    go_wp2_with fail
    refine⟨⟨b,l++[r],g-1,n+1,vn5,rfl,rfl,?_,?_,?_,HE.out,HF.out⟩,HOK.out.2⟩
    ·have:=HOK.out.2;have:=HR.out;omega
    ·rw[aI];have:=HOK.out.2;have:=HR.out;show l.length+1+_<=_;omega
    rw[aI];have:=HR.out;show n+1=l.length+1;omega
 rw[aA hh,bM hh];have HE:Hid (iC t=([],false)):=aA hh;clear hh
 go_wp2_with fail
 go_ret2;refine⟨lb,mb,vn0,0,?_,?_,aS _,?_,HB1.out.2.1,HB1.out.2.2⟩
 ·rw[HE.out];rfl
 ·rw[HE.out];exact HB1.out.1
 rw[HE.out];exact aS _
end
theorem JV(n:Nat)(h:n<256)(b:ah):byteOf (⟨#[UInt8.ofNat n]⟩++b) 0=n:=by
 unfold byteOf;rw[Ab,Array.getElem?_append_left (show 0<1 from Nat.one_pos)];show(UInt8.ofNat n).toNat=n;rw[Vt,aaX h]
theorem QD(a b c:ah)(i j:Nat)(hi:i=a.size)(hj:j=a.size+b.size):(a++(b++c)).extract i j=b:=by
 subst hi hj;have h:=ByteArray.extract_append_size_add (a:=a) (b:=b++c) (i:=0) (j:=b.size);rw[kX] at h;rw[h,Yi rfl]
theorem Qc(body rest:ah)(hb:body.size<256):mg (⟨#[UInt8.ofNat body.size]⟩++(body++(lN body++rest)))=some (body,rest):=by
 have h0:=JV body.size hb (body++(lN body++rest));have h1:(ByteArray.mk #[UInt8.ofNat body.size]).size=1:=rfl;have hc:(lN body).size=4:=rfl
 have hs:(⟨#[UInt8.ofNat body.size]⟩++(body++(lN body++rest)):ah).size=1+(body.size+(4+rest.size)):=by
  rw[aL,aL,aL,h1,hc]
 have e1:(⟨#[UInt8.ofNat body.size]⟩++(body++(lN body++rest)):ah).extract 1 (1+body.size)=body:=QD _ _ _ _ _ h1.symm (by rw[h1])
 have e2:(⟨#[UInt8.ofNat body.size]⟩++(body++(lN body++rest)):ah).extract (1+body.size) (1+body.size+4)=lN body:=by
  rw[<-dN];exact QD _ _ _ _ _ (by rw[aL,h1]) (by rw[aL,h1,hc])
 have e3:(⟨#[UInt8.ofNat body.size]⟩++(body++(lN body++rest)):ah).extract (1+body.size+4) (1+(body.size+(4+rest.size)))=rest:=by
  rw[<-dN,<-dN];exact yA (by rw[aL,aL,h1,hc]) (by rw[aL,aL,h1,hc];omega)
 unfold mg;rw[h0,hs,aA aJ,aA aJ,e2,e1,e3,aH rfl]
variable {r:gG}
theorem Xg(h:lU r)(hn:eU r.name=true):qb (lZ r)=some r:=by
 have hs:=Al h
 have hb:lZ r=⟨#[UInt8.ofNat r.name.size]⟩++(r.name++(r.sig++r.sum)):=by
  unfold lZ;rw[dN,dN]
 have h1:(ByteArray.mk #[UInt8.ofNat r.name.size]).size=1:=rfl
 have h0:byteOf (lZ r) 0=r.name.size:=by rw[hb];exact JV _ (by have:=h.name;omega) _
 have e1:(lZ r).extract 1 ((lZ r).size-64)=r.name:=by rw[hs,hb];exact QD _ _ _ _ _ h1.symm (by rw[h1];omega)
 have e2:(lZ r).extract ((lZ r).size-64) ((lZ r).size-32)=r.sig:=by
  rw[hs,hb,<-dN];exact QD _ _ _ _ _ (by rw[aL,h1];omega) (by rw[aL,h1,h.sig];omega)
 have e3:(lZ r).extract ((lZ r).size-32) (lZ r).size=r.sum:=by
  rw[hs,hb,<-dN,<-dN];exact yA (by rw[aL,aL,h1,h.sig];omega) (by rw[aL,aL,h1,h.sig,h.sum];omega)
 unfold qb;rw[aA aJ,h0,aA aJ,e1,e2,e3,aH hn]
theorem Sj(h:lU r)(hn:eU r.name=true)(rest:ah):oU (zT r++rest)=some (r,rest):=by
 have e:zT r++rest=⟨#[UInt8.ofNat (lZ r).size]⟩++(lZ r++(lN (lZ r)++rest)):=by
  unfold zT;rw[dN,dN]
 unfold oU;rw[e,Qc _ _ (by have:=Al h;have:=h.name;omega)];show(qb (lZ r)).map _=_;rw[Xg h hn];rfl
theorem Dq:∀(l:List gG) (g:Nat) (acc:List gG),(∀r∈l,lU r/\eU r.name=true)->(gm l).size<=g->mF g (gm l) acc=(acc++l,true)
 |[],g,acc,_,_=>by rw[fM];exact Dr g _ acc rfl
 |r::l,g,acc,h,hg=>by
  have hr:=h r (aQ ..);have hsz:(gm (r::l)).size=(zT r).size+(gm l).size:=aL;have h70:=OT hr.1;rw[Dt hg aJ];have e:gm (r::l)=zT r++gm l:=rfl;rw[e,Sj hr.1 hr.2];show mF (g-1) (gm l) (acc++[r])=_;rw[Dq l (g-1) (acc++[r]) (fun x hx=>h x (aZ _ hx)) aJ,eZ];rfl
theorem QV(l:List gG)(h:∀r∈l,lU r/\eU r.name=true):iC (jv++gm l)=(l,true):=by
 have h1:jv.size=12:=rfl;unfold iC;rw[aH (Yi h1.symm),yA h1.symm (by rw[aL]),Dq l _ [] h (by rw[aL];omega),xD]
variable {t:ah}{j:Nat}
theorem DV{i k:Nat}(h1:i<=j)(h2:j<=k):t.extract i j++t.extract j k=t.extract i k:=by
 rw[Yj,lK h1,Nat.max_eq_right h2]
theorem Kj(t:ah)(h:0<t.size):t.extract 0 1=⟨#[UInt8.ofNat (byteOf t 0)]⟩:=by
 apply ByteArray.ext;rw[gI];unfold byteOf;have h':0<t.data.size:=h;rw[wF h',dm,UInt8.ofNat_toNat];apply Array.ext
 ·simp;omega
 intro i h1 h2
 simp at h2
 subst h2
 simp
variable {b rest:ah}
theorem Sg(h:mg t=some (b,rest)):t=⟨#[UInt8.ofNat b.size]⟩++b++lN b++rest:=by
 unfold mg at h
 split at h
 ·cases h
 rename_i h0
 split at h
 ·cases h
 rename_i h1
 split at h
 ·rename_i h2
  obtain⟨rfl,rfl⟩:=Prod.mk.inj (ax h)
  have hs:(t.extract 1 (1+byteOf t 0)).size=byteOf t 0:=by rw[aM];omega
  rw[hs,<-h2,<-Kj t aJ,DV aJ aJ,DV aJ aJ,DV aJ aJ,kC]
 cases h
theorem ZT(h:qb b=some r):b=lZ r/\eU r.name=true:=by
 unfold qb at h
 split at h
 ·cases h
 rename_i h0
 split at h
 ·cases h
 rename_i h1
 split at h
 ·rename_i h2
  obtain rfl:=ax h;refine⟨?_,h2⟩
  have hs:(b.extract 1 (b.size-64)).size=byteOf b 0:=by rw[aM];omega
  show b=⟨#[UInt8.ofNat (b.extract 1 (b.size-64)).size]⟩++b.extract 1 (b.size-64)++b.extract (b.size-64) (b.size-32)++b.extract (b.size-32) b.size;rw[hs,<-Kj b aJ,DV aJ aJ,DV aJ aJ,DV aJ aJ,kC]
 cases h
theorem JX(h:oU t=some (r,rest)):t=zT r++rest/\lU r/\eU r.name=true:=by
 have hk:=(NW h).1;unfold oU at h;obtain⟨y,hy,h⟩:=rC.1 h;obtain⟨r',hr,h⟩:=bA.1 h;obtain⟨rfl,rfl⟩:=Prod.mk.inj h;obtain⟨b,rest⟩:=y;obtain⟨e,hn⟩:=ZT hr;refine⟨?_,hk,hn⟩;rw[Sg hy];unfold zT;rw[<-e]
theorem ZU(l l':List gG):gm (l++l')=gm l++gm l':=by
 induction l with
 |nil=>exact(ByteArray.empty_append).symm
 |cons r l ih=>
  show zT r++gm (l++l')=zT r++gm l++gm l';rw[ih,dN]
theorem Fw:∀(g:Nat) (t:ah) (acc l:List gG),mF g t acc=(l,true)->∃l',l=acc++l'/\t=gm l'/\∀r∈l',lU r/\eU r.name=true
 |0,t,acc,l,h=>by
  unfold mF at h;obtain⟨rfl,h⟩:=Prod.mk.inj h;exact⟨[],(fM _).symm,iJ.1 (by simpa using h),fun r hr=>by cases hr⟩
 |g+1,t,acc,l,h=>by
  unfold mF at h
  split at h
  ·rename_i h0
   obtain⟨rfl,_⟩:=Prod.mk.inj h;exact⟨[],(fM _).symm,iJ.1 h0,fun r hr=>by cases hr⟩
  split at h
  ·cases (Prod.mk.inj h).2
  rename_i x hx
  obtain⟨r,rest⟩:=x;obtain⟨l',rfl,e,ho⟩:=Fw g rest (acc++[r]) l h;obtain⟨h1,h2⟩:=JX hx;refine⟨r::l',by rw[eZ];rfl,by rw[h1,e];rfl,fun q hq=>?_⟩
  rcases bg.1 hq with rfl|hq
  ·exact h2
  exact ho q hq
theorem Im:∀(g:Nat) (t:ah) (acc:List gG),(∀r∈acc,lU r/\eU r.name=true)->∀r∈(mF g t acc).1,lU r/\eU r.name=true
 |0,t,acc,h=>h
 |g+1,t,acc,h=>by
  unfold mF
  split
  ·exact h
  split
  ·exact h
  rename_i x hx
  obtain⟨r,rest⟩:=x;refine Im g rest _ (fun q hq=>?_)
  rcases bQ.1 hq with hq|hq
  ·exact h q hq
  obtain rfl:=bD.1 hq;exact(JX hx).2
variable {l:List gG}
theorem Um(h:iC t=(l,true)):t=jv++gm l:=by
 unfold iC at h
 split at h
 ·rename_i h0
  obtain⟨l',e,e2,ho⟩:=Fw _ _ _ _ h;rw[xD] at e;subst e
  have hs:12<=t.size:=by
   have:=ig ByteArray.size h0;rw[aM] at this;have h12:jv.size=12:=rfl;omega
  rw[<-e2,<-h0,DV aJ aJ,kC]
 cases (Prod.mk.inj h).2
theorem Xe(t:ah):∀r∈(iC t).1,lU r/\eU r.name=true:=by
 unfold iC
 split
 ·exact Im _ _ _ (fun r hr=>by cases hr)
 intro r hr;cases hr
theorem Oe(x:ah):∀(l:List gG) (L:kD),(l.map (·.name)).Nodup->(l.foldl jd L).last x=((l.find? fun r=>decide (r.name=x)).map some).getD (L.last x)
 |[],L,_=>rfl
 |r::l,L,h=>by
  rw[mJ,nC] at h;rw[jA,Oe x l _ h.2,List.find?_cons]
  by_cases q:r.name=x
  ·rw[bT q]
   have hn:l.find? (fun r=>decide (r.name=x))=none:=by
    rw[Dz];intro s hs;simp only[lg];intro e;exact h.1 (fP.2 ⟨s,hs,e.trans q.symm⟩)
   rw[hn];show(if x=r.name then some r else L.last x)=some r;rw[aH q.symm]
  rw[bM q];have e:(jd L r).last x=L.last x:=aA (fun e=>q e.symm);rw[e]
theorem Kl:∀(l:List gG) (L:kD),(l.map (·.name)).Nodup->(∀r∈l,L.last r.name=none)->(l.foldl jd L).names=L.names++l.map (·.name)
 |[],L,_,_=>by rw[CV,fM];rfl
 |r::l,L,h,hl=>by
  rw[mJ,nC] at h;have h0:=hl r (aQ ..);have e:(jd L r).names=L.names++[r.name]:=aA (by rw[h0];exact fu);rw[jA,Kl l _ h.2 (fun s hs=>?_),e,eZ]
  ·rfl
  show(if s.name=r.name then some r else L.last s.name)=none;rw[aA (fun q=>h.1 (fP.2 ⟨s,hs,q⟩))];exact hl s (aZ _ hs)
variable {L:kD}
theorem Tx(h:wU L):(kr L).map (·.name)=L.names:=by
 unfold kr
 have g:∀l:List ah,(∀x∈l,(L.last x).isSome=true)->(l.filterMap L.last).map (·.name)=l:=by
  intro l
  induction l with
  |nil=>intro _;rfl
  |cons x l ih=>
   intro hl;obtain⟨r,hr⟩:=fQ.1 (hl x (aQ ..));rw[Cn,hr,mJ,ih (fun y hy=>hl y (aZ _ hy)),h.own x r hr]
 exact g L.names (fun x hx=>(h.has x).1 hx)
theorem WE(h:wU L):(qQ (kr L)).last=L.last/\(qQ (kr L)).names=L.names/\(qQ (kr L)).count=L.names.length:=by
 have hn:=Tx h
 have hnd:((kr L).map (·.name)).Nodup:=by rw[hn];exact h.nd
 refine⟨?_,?_,?_⟩
 ·funext x
  unfold qQ;rw[Oe x _ _ hnd];show((List.find? _ (kr L)).map some).getD none=L.last x
  cases hx:L.last x with
  |none=>
   have e:(kr L).find? (fun r=>decide (r.name=x))=none:=by
    rw[Dz];intro s hs;simp only[lg];intro q;obtain⟨y,_,hy⟩:=jw.1 hs;have:=h.own y s hy;rw[<-this,q,hx] at hy
    cases hy
   rw[e];rfl
  |some r=>
   have hm:r∈kr L:=jw.2 ⟨x,(h.has x).2 (by rw[hx];rfl),hx⟩
   cases hf:(kr L).find? (fun r=>decide (r.name=x)) with
   |none=>
    rw[Dz] at hf;exact absurd (bT (h.own x r hx)) (hf r hm)
   |some s=>
    have h0:=List.find?_some hf
    have h1:s.name=x:=by simpa using h0
    obtain⟨y,_,hy⟩:=jw.1 (pY hf);have h2:=h.own y s hy;rw[<-h2,h1,hx] at hy;rw[ax hy];rfl
 ·unfold qQ;rw[Kl _ _ hnd (fun _ _=>rfl)];show []++_=_;rw[xD,hn]
 rw[Az,<-hn,jV]
end Go.Proofs.YthhbpebihgjpjaaGreatDoor
