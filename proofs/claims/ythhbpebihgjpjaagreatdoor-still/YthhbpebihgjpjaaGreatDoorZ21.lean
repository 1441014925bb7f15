import Derived.Test.YthhbpebihgjpjaaGreatDoorZ11
import Derived.Test.YthhbpebihgjpjaaGreatDoorZ20
namespace Go.Proofs.YthhbpebihgjpjaaGreatDoor
set_option maxRecDepth 1000000
set_option maxHeartbeats 20000000
set_option linter.all false
section
open Go.RowKit Go.Maps
def yI(L:kD)(x:ah):Option Value:=(L.last x).map fun r=>.agg (bJ r).toArray
theorem Fe(L:kD)(x:ah):(yI L x).isSome=(L.last x).isSome:=by unfold yI;rw[YA]
theorem Wy(L:kD)(r:gG):(fun y=>if y=r.name then some (Value.agg (bJ r).toArray) else yI L y)=yI (jd L r):=by
 funext y
 show _=(if y=r.name then some r else L.last y).map _
 by_cases q:y=r.name
 ·rw[aH q,aH q];rfl
 rw[aA q,aA q];rfl
structure jK(w:ak)(lb mb:Nat)(vn:Value)(n:Nat)(L:kD):Prop where
 row:w.heap[lb]?=some (.cells #[.int .i64 (L.count:Nat),vn,.map (some mb)] 270 (0,0))
 names:w.ownsRow 0 9 1 vn L.names.length (L.names.map Value.string)
 last:eu GJ (.agg Tryz.zeroCells372) w mb n (yI L)
 ok:wU L
 recs:∀x r,L.last x=some r->lU r
def oJ(lb mb:Nat)(vn:Value)(k:Nat):Prop:=k=lb\/k=mb\/vn.ownBlock=some k
variable {w:ak}{b n:Nat}
theorem eu.obj{C:zF}{z:Value}{f:ah->Option Value}(h:eu C z w b n f):∃es clock,w.heap[b]?=some (.map es clock):=by
 obtain⟨_,_,_,_,⟨es,clock,hb,_⟩,_⟩:=h;exact⟨es,clock,hb⟩
variable {v:Value}
theorem vL{B:Nat}{o:Obj}{e:TypeId}{s:Nat}{xs:List Value}(h:w.heap[b]?=some o)(ho:w.ownsRow B e s v n xs)(hne:∀cs f,o≠.cells cs e f):v.ownBlock≠some b:=by
 intro hk;obtain⟨h1,⟨rfl,h0⟩|⟨g,cap,cur,rfl,hg,hh,r⟩⟩:=ho
 ·cases hk
 have e1:g=b:=ax hk;subst e1;rw[hh] at h;exact hne _ _ (ax h).symm
variable {lb mb:Nat}{vn:Value}{L:kD}
theorem jK.apart(h:jK w lb mb vn n L):lb≠mb/\vn.ownBlock≠some lb/\vn.ownBlock≠some mb:=by
 obtain⟨es,clock,hm⟩:=h.last.obj;refine⟨fun e=>?_,vL h.row h.names (fun cs f e=>?_),vL hm h.names (fun cs f e=>?_)⟩
 ·subst e;rw[h.row] at hm
  cases hm
 ·injection e with _ e _;exact absurd e bS
 cases e
theorem jK.lt(h:jK w lb mb vn n L)(k:Nat)(hk:oJ lb mb vn k):k<w.heap.size:=by
 rcases hk with rfl|rfl|hk
 ·exact bN h.row
 ·exact h.last.lt
 exact(bF h.names k hk).2
variable {w':ak}
theorem jK.keep(h:jK w lb mb vn n L)(hb:∀k,oJ lb mb vn k->w'.heap[k]?=w.heap[k]?):jK w' lb mb vn n L:=
 ⟨(hb lb (aK rfl)).trans h.row,dR h.names (fun k hk=>hb k (aP (aP hk))),h.last.keep (hb mb (aP (aK rfl))),h.ok,h.recs⟩
theorem jK.below(h:jK w lb mb vn n L)(hb:Below w.heap.size w w'):jK w' lb mb vn n L:=h.keep (fun k hk=>hb.block k (h.lt k hk))
structure XI(w:ak)(lb mb eb:Nat)(vn:Value)(n:Nat)(L:kD)(r:gG)(v5:Value)(W:ak):Prop where
 row:W.heap[lb]?=some (.cells #[.int .i64 (L.count:Nat),v5,.map (some mb)] 270 (0,0))
 names:W.ownsRow 0 9 1 v5 (jd L r).names.length ((jd L r).names.map Value.string)
 last:eu GJ (.agg Tryz.zeroCells372) W mb n (yI L)
 cells:W.rangeAt eb 0 (bJ r)
 new:w.heap.size<=eb
 grew:∀k,v5.ownBlock=some k->vn.ownBlock=some k\/w.heap.size<=k
 moves:lF (oJ lb mb vn) w W
theorem yV(w:ak):(zeroValue 372).run Tryz.prog w=.ok (.agg Tryz.zeroCells372) w:=dD
theorem ZQ:∃d p,GJ.R (.agg Tryz.zeroCells372)=some (d,p):=by
 have h:(GJ.R (.agg Tryz.zeroCells372)).isSome=true:=dD
 obtain⟨⟨d,p⟩,h⟩:=fQ.1 h;exact⟨d,p,h⟩
theorem KU{l:List gG}(h:jK w lb mb vn n L)(hr:sG w v l)(hro:∀r∈l,lU r)(hap:l=[]\/∀a m c,v=.slice (some a) m c->¬oJ lb mb vn a.block)(hl:l.length<=1000000000000)(hn:n<=1000000000000)(hc:L.count<=1000000000000):
  Calls Tryz.prog 241 #[.pointer (some ⟨lb,0,none⟩),v] w fun e w'=>e=.returned (.tuple #[])/\∃Ny,jK w' lb mb Ny (n+l.length) (l.foldl jd L)/\(∀k,Ny.ownBlock=some k->vn.ownBlock=some k\/w.heap.size<=k)/\lF (oJ lb mb vn) w w':=by
 obtain⟨ao,cap,rfl,hcap,hg⟩:=id hr;have HR:=aV hg;have HOK:Hid ((∀r∈l,lU r)/\(l=[]\/∀a,ao=some a->¬oJ lb mb vn a.block)/\n<=1000000000000/\L.count<=1000000000000):=⟨hro,hap.imp_right (fun h a e=>h a _ _ (by rw[e])),hn,hc⟩
 have HI:Hid ((Tryz.prog.info? 372).map (·.size)=some 65):=by unfold Hid;kernel_rfl
 have HZ:Hid (Tryz.zeroCells372.size=65/\Tryz.zeroCells372.all (·.oneCell')=true):=⟨dD,dD⟩
 have hinf:(Tryz.prog.info? 9).map (fun i=>(i.size,i.bytes,i.zero))=some (1,16,some (.string ⟨#[]⟩)):=dD
 obtain⟨tj,hti,htj⟩:=bA.1 hinf;simp only[Prod.mk.injEq] at htj;have HTJ:=aV (aO hti (aO htj.1 (aO htj.2.1 htj.2.2)));have HB:=aV h;clear h hr hro hap hcap hg hinf hti htj hc;generalize hL:l.length=LL at*;have HL:=aV hL
 have l0:(LL:Int)<=1000000000000:=aJ
 clear hL
 go_enter Tryz.func241,Tryz.ntmps241
 go_wp2_with fail
 go_loopw [10] (fun i wr=>∃(j:Nat) (vj:Value),i=.int .i64 j/\j<=LL/\jK wr lb mb vj (n+j) ((l.take j).foldl jd L)/\(∀k,vj.ownBlock=some k->vn.ownBlock=some k\/w.heap.size<=k)/\lF (oJ lb mb vn) w wr) (fun i _=>LL-(intOf i).toNat)
 case atStart=>exact⟨0,vn,rfl,aS _,HB.out,fun _ h=>aK h,lF.refl _ _⟩
 case round=>
  obtain⟨j,vj,rfl,hj,hbk,hgw,hmv⟩:=hrel;have tC:=aV hbk;have HGM:=aV (aO hgw hmv);clear hbk hgw hmv
  have j0:(0:Int)<=(j:Int):=aJ
  by_cases hlt:j<LL
  ·have j1:(j:Int)<(LL:Int):=aJ
   obtain⟨r,hr⟩:∃r,l[j]?=some r:=⟨l[j]'(by have:=HL.out;omega),eB⟩
   obtain⟨g,o,rfl,hgl,hrg⟩:∃g o,ao=some ⟨g,o,none⟩/\g<w.heap.size/\∀(k:Nat) r,l[k]?=some r->w.rangeAt g (o+k*65) (bJ r):=by
    rcases HR.out with q|q
    ·rw[q] at hr;simp at hr
    exact q
   have aib:∀a,some (⟨g,o,none⟩:Addr)=some a->¬oJ lb mb vn a.block:=by
    rcases HOK.out.2.1 with q|q
    ·rw[q] at hr;simp at hr
    exact q
   have HRG:Hid (wr.rangeAt g (o+j*65) (bJ r)):=fun i u hu=>(aF (w:=w) (a:=⟨g,o+j*65+i,none⟩) (HGM.out.2.block g hgl (aib _ rfl))).trans (hrg j r hr i u hu)
   have hro:=HOK.out.1 r (aU hr);have Ew:Hid (lU r/\(l.take (j+1)).foldl jd L=jd ((l.take j).foldl jd L) r):=⟨hro,by rw[dU,hr,lX,yZ];rfl⟩
   have HLC:Hid (((l.take j).foldl jd L).count<=2000000000000):=by
    have gg:∀(l:List gG) (L:kD),(l.foldl jd L).count=L.count+l.length:=by
     intro l
     induction l with
     |nil=>exact fun _=>rfl
     |cons r l ih=>intro L;rw[jA,ih];show L.count+1+l.length=L.count+(l.length+1);omega
    show _<=_;rw[gg,ic];have:=HOK.out.2.2.2;omega
   have HI2:Hid ((Tryz.prog.info? 372).map (·.size)=some (bJ r).length):=by rw[iV hro];exact HI.out
   have wX:Hid ((bJ r).toArray.size=65/\(bJ r).toArray.all (·.oneCell')=true):=⟨by rw[bZ];exact iV hro,eH (lS r)⟩;generalize (l.take j).foldl jd L=Lj at*;clear hrg hr hro aib
   go_wp2_with (first
    | (refine nY rfl 372 (.tmp 12) rfl g (o+j*65) rfl (bJ r) _ HRG.out Tryz.underlying372 rfl HI2.out ?_;refine dO ?_)
    |fail)
   clear HRG;have NC:Hid ((bJ r).toArray.toList=bJ r):=rfl;generalize hRC:(bJ r).toArray=RC at*;unfold Hid
   go_wp2_with (first
    | (refine cK rfl 372 (.tmp 5) (.tmp 13) rfl wr.heap.size 0 RC rfl rfl (bR (bq _ _ _ rfl) 0 _ (by rw[wX.out.1];decide)) (by rw[wX.out.1];exact HI.out) wX.out.2 ?_;refine dO ?_)
    |fail)
   have HW2:Hid (Below wr.heap.size wr ((wr.alloc (.cells Tryz.zeroCells372 372)).setCells wr.heap.size 0 RC.toList)/\((wr.alloc (.cells Tryz.zeroCells372 372)).setCells wr.heap.size 0 RC.toList).rangeAt wr.heap.size 0 (bJ r)):=by
    rw[<-NC.out];refine⟨jo _ _ ((ay _ _).alloc (ai _) _) (ai _),eF _ _ _ _ (bR (bq _ _ _ rfl) 0 _ (by rw[aX,wX.out.1];decide))⟩
   generalize (wr.alloc (.cells Tryz.zeroCells372 372)).setCells wr.heap.size 0 RC.toList=W2 at*
   obtain⟨C,hC,hCs,hCo⟩:∃C,(yI Lj r.name).getD (.agg Tryz.zeroCells372)=.agg C/\C.size=65/\C.all (·.oneCell')=true:=by
    unfold yI
    cases hq:Lj.last r.name with
    |none=>exact⟨_,rfl,HZ.out⟩
    |some r0=>exact⟨_,rfl,by rw[bZ];exact iV (tC.out.recs _ _ hq),eH (lS r0)⟩
   have HC:=aV (aO hCs hCo);have hkn:((yI Lj r.name).isSome)=(Lj.last r.name).isSome:=Fe _ _;have acS:=aV (tC.out.below HW2.out.1);generalize hEB:wr.heap.size=eb at*
   have wG:Hid (w.heap.size<=eb/\eb<W2.heap.size):=⟨by rw[<-hEB];exact HGM.out.2.size,by
    have h:=HW2.out.2 0 _ rfl
    exact aG h⟩
   have akm:Hid (vj.ownBlock≠some eb):=fun e=>by
    have h:=tC.out.lt eb (aP (aP e));omega
   have HMV:Hid (lF (oJ lb mb vn) w W2):=by
    have h1:=HGM.out.2;have h2:=HW2.out.1;refine⟨h2.os.trans h1.os,h2.tape.trans h1.tape,h2.output.trans h1.output,aC h1.size h2.size,fun k hk hF=>(h2.block k (by have:=h1.size;omega)).trans (h1.block k hk hF)⟩
   have HQ:Hid (∀w',Below W2.heap.size W2 w'->w'.cell? ⟨lb,2,none⟩=some (.map (some mb))/\w'.cell? ⟨eb,0,none⟩=some (.string r.name)/\(Instr.lookup 268 (.map (some mb)) (.string r.name) true).run Tryz.prog w'=.ok (.tuple #[.agg C,.bool (Lj.last r.name).isSome]) w'):=by
    refine fun w' hb=>⟨?_,?_,?_⟩
    ·rw[aj _ _ _ _ _ _ (acS.out.below hb).row];rfl
    ·exact(hb.cell (p:=⟨eb,0,none⟩) wG.out.2).trans (HW2.out.2 0 _ rfl)
    rw[(acS.out.below hb).last.look_ok (t:=268) Tryz.underlying268 yV r.name (by have:=Ew.out.1.name;unfold maxLen;omega),hC,hkn]
   have HCE:=aV HW2.out.2;clear hC hCs hCo hkn HW2 tC hEB HI2 NC;generalize hx:r.name=x at*;generalize adI:(Lj.last x).isSome=kn at*;unfold Hid
   go_wp2_with fail
   refine dJ (S:=fun w'=>Below W2.heap.size W2 w') dD ?_;change wpAnyH _ _ _ _ _ _ _ _ (World.drew _);have gX:Hid (Below W2.heap.size W2 W2.drew):=(ay _ _).drew;refine uQ 0 (.pointer (some ⟨lb,0,none⟩)) rfl gX.out HQ.out ?_;refine uQ 1 (.pointer (some ⟨lb,0,none⟩)) rfl gX.out HQ.out ?_;refine uQ 2 (.pointer (some ⟨lb,2,none⟩)) rfl gX.out HQ.out ?_;refine uQ 3 (.map (some mb)) rfl gX.out HQ.out ?_;refine uQ 4 (.pointer (some ⟨eb,0,none⟩)) rfl gX.out HQ.out ?_;refine uQ 5 (.string x) rfl gX.out HQ.out ?_;refine uQ 6 (.tuple #[.agg C,.bool kn]) rfl gX.out HQ.out ?_;refine uQ 7 (.tuple #[.agg C,.bool kn]) rfl gX.out HQ.out ?_;refine uQ 8 (.agg C) rfl gX.out HQ.out ?_;refine uQ 9 (.bool kn) rfl gX.out HQ.out ?_
   refine rH 10 rfl fun K hK=>?_
   go_simp;generalize hZ0:Tryz.zeroCells372=Z at*;clear hZ0;have HBd:Hid (Below W2.heap.size W2 (W2.drew.alloc (.cells Z 372))):=gX.out.alloc (ai _) _;refine hK.out _ _ HBd.out (fun _=>?_);clear hK K
   refine rH 11 rfl fun K hK=>?_
   rw[aH dD];refine wp_store_mid 372 (.tmp 6) (.tmp 22) rfl W2.heap.size 0 C rfl rfl (bR (bq _ _ _ rfl) 0 _ (by rw[HC.out.1,HZ.out.1];decide)) (by rw[HC.out.1];exact HI.out) HC.out.2 ?_;have HBe:Hid (Below W2.heap.size W2 ((W2.drew.alloc (.cells Z 372)).setCells W2.heap.size 0 C.toList)):=jo _ _ HBd.out (ai _);change K _ ((W2.drew.alloc (.cells Z 372)).setCells W2.heap.size 0 C.toList);generalize (W2.drew.alloc (.cells Z 372)).setCells W2.heap.size 0 C.toList=W3 at*;refine hK.out _ _ HBe.out (fun _=>?_);clear hK K gX HBd;have gX:=aV (HBe.out);refine uQ 12 (.bool kn) rfl gX.out HQ.out ?_;refine eX dD ?_ _;have CO:=aV (acS.out.below gX.out)
   have acT:Hid (W3.rangeAt eb 0 (bJ r)):=fun i u hu=>(gX.out.cell (p:=⟨eb,0+i,none⟩) wG.out.2).trans (HCE.out i u hu)
   have acW:Hid (lF (oJ lb mb vn) w W3):=by
    have h1:=HMV.out;have h2:=gX.out;exact⟨h2.os.trans h1.os,h2.tape.trans h1.tape,h2.output.trans h1.output,aC h1.size h2.size,fun k hk hF=>(h2.block k (by have:=h1.size;omega)).trans (h1.block k hk hF)⟩
   have ahk:Hid (eb<W3.heap.size):=by have:=wG.out.2;have:=gX.out.size;show _<_;omega
   clear gX HBe acS HCE HMV HQ HC wX
   rcases kn with _|_
   case' true=>
    obtain⟨W5,Zi⟩:∃W5,W5=W3:=⟨_,rfl⟩;obtain⟨v5,hv5⟩:∃v5,v5=vj:=⟨_,rfl⟩
    have Ac:Hid (XI w lb mb eb vn (n+j) Lj r v5 W5):=by
     rw[Zi,hv5];have hnm:(jd Lj r).names=Lj.names:=aH (by rw[hx];exact adI);exact⟨CO.out.row,by rw[hnm];exact CO.out.names,CO.out.last,acT.out,wG.out.1,HGM.out.1,acW.out⟩
    go_wp2_with fail
    rw[<-Zi];clear hv5 Zi adI
   case' false=>
    obtain⟨aoN,VG,Nc,_,_⟩:=bE CO.out.names;have HNR:=aV CO.out.names;have CZ:=aV (aC CO.out.ok.le HLC.out);have HNE:=aV (aO CO.out.apart.2.1 (aO CO.out.apart.2.2 CO.out.apart.1));generalize hNL:Lj.names.length=NL at*
    have c1:W3.cell? ⟨lb,1,none⟩=some vj:=by rw[aj _ _ _ _ _ _ CO.out.row];rfl
    have c2:W3.cell? ⟨eb,0,none⟩=some (.string x):=by rw[<-hx];exact acT.out 0 _ rfl
    have HLB:=aV (aG c1);have c1a:(W3.alloc (.cells #[.string x] 9)).cell? ⟨lb,1,none⟩=some vj:=(aF (w:=W3) (a:=⟨lb,1,none⟩) (bC _ _ lb HLB.out)).trans c1;have HVJ:=aV Nc;subst Nc
    go_wp2_with fail
    refine jX dD ?_;change wpAny _ _ _ _ _ _ _ (World.drew _);refine uA 0 (.pointer (some ⟨lb,0,none⟩)) rfl<|uA 1 (.pointer (some ⟨lb,0,none⟩)) rfl<|uA 2 (.pointer (some ⟨lb,0,none⟩)) rfl<|uA 3 (.pointer (some ⟨lb,1,none⟩)) rfl<|uA 5 (.pointer (some ⟨eb,0,none⟩)) rfl ?_
    refine pA 4 6 rfl rfl (fun K hK=>?KY) fun K hK=>?KZ
    case' KY=>
     go_simp;refine hK _ _ ?_;clear hK K
     refine rA 6 rfl fun K hK=>?_
     go_simp;refine hK _ _ ?_;clear hK K
     refine rA 7 rfl fun K hK=>?_
     go_simp
    case' KZ=>
     go_simp;refine hK _ _ ?_;clear hK K
     refine pA 4 7 rfl rfl (fun K hK=>?QI) fun K hK=>?QJ
     case' QI=>
      go_simp;refine hK _ _ ?_;clear hK K
      refine rA 7 rfl fun K hK=>?_
      go_simp
     case' QJ=>
      go_simp;refine hK _ _ ?_;clear hK K
      refine rA 4 rfl fun K hK=>?_
      go_simp
    case' _|_|_=>
     refine hK _ _ ?_;clear hK K;obtain⟨W8,Gr⟩:∃W8,W8=(W3.alloc (.cells #[.string x] 9)).drew:=⟨_,rfl⟩
     have Bd:Hid (Below W3.heap.size W3 W8):=by rw[Gr];exact((ay _ _).alloc (ai _) _).drew
     have HN8:Hid (∀j u,([.string x]:List Value)[j]?=some u->W8.cell? ((⟨W3.heap.size,0,none⟩:Addr).add j)=some u):=by rw[Gr];exact iM W3 _ _
     rw[<-Gr];clear Gr c1a c1 c2;have HD8:Hid (W8.ownsRow 0 9 1 (.slice aoN NL VG) NL (Lj.names.map Value.string)):=dR HNR.out (fun k hk=>Bd.out.block k (bF HNR.out k hk).2)
     refine rA 8 rfl fun K hK=>?_
     refine step_append_lies _ rfl (.tmp 30) (.tmp 33) 32 rfl 0 9 tj (.string ⟨#[]⟩) 1 16 Tryz.underlying32 HTJ.out.1 HTJ.out.2.2.2 HTJ.out.2.1 HTJ.out.2.2.1 rfl bS _ NL (Lj.names.map Value.string) rfl HD8.out ⟨W3.heap.size,0,none⟩ 1 1 [.string x] rfl rfl HN8.out (by intro u hu;simp only[bg,dH,kz] at hu;rcases hu with rfl;rfl) bS (by have:=CZ.out;unfold maxLen;omega) (by have:=CZ.out;omega) (aS _) _ rfl ?_;intro g6 cap6 w6 hv6 hg6 hat6 hlt6;have hrow6:w6.heap[lb]?=some (.cells #[.int .i64 (Lj.count:Nat),.slice aoN NL VG,.map (some mb)] 270 (0,0)):=(hg6.block lb (aB HLB.out Bd.out.size) (fun e=>HNE.out.1 e.symm)).trans ((Bd.out.block lb HLB.out).trans CO.out.row)
     have d6:w6.cell? ⟨lb,1,none⟩=some (.slice aoN NL VG):=by rw[aj _ _ _ _ _ _ hrow6];rfl
     have f6:w6.frozen? ⟨lb,1,none⟩=false:=aD _ _ _ _ _ hrow6;obtain⟨W5,Zi⟩:∃W5,W5=w6.setCell ⟨lb,1,none⟩ (.slice (some ⟨g6,0,none⟩) (NL+1) cap6):=⟨_,rfl⟩;obtain⟨v5,hv5⟩:∃v5,v5=Value.slice (some ⟨g6,0,none⟩) (NL+1) cap6:=⟨_,rfl⟩
     have Ac:Hid (XI w lb mb eb vn (n+j) Lj r v5 W5):=by
      rw[hv5]
      have alv:g6≠lb:=fun e=>by
       rcases hat6 with q|q
       ·exact HNE.out.1 (by rw[<-e];exact q)
       have h1:=HLB.out;have h2:=Bd.out.size;omega
      have hkp:∀k,k<W3.heap.size->k≠lb->(Value.slice aoN NL VG).ownBlock≠some k->W5.heap[k]?=W3.heap[k]?:=fun k hk h1 h2=>by
       rw[Zi,au _ _ _ _ (show k≠lb from h1),hg6.block k (aB hk Bd.out.size) (fun e=>h2 e.symm)];exact Bd.out.block k hk
      have hnm:(jd Lj r).names=Lj.names++[x]:=by
       rw[<-hx];exact aA (by rw[hx,adI];exact fu)
      refine⟨?_,?_,CO.out.last.keep (hkp mb CO.out.last.lt (fun e=>HNE.out.2.2 e.symm) HNE.out.2.1),fun i u hu=>?_,wG.out.1,fun k hk=>?_,?_⟩
      ·rw[Zi,aR _ _ _ _ _ _ hrow6];rfl
      ·rw[hnm,aI,iI,hNL,Zi];exact dR hv6 (fun k hk=>au _ _ _ _ (show k≠lb from fun e=>alv (by rw[<-e];exact ax hk)))
      ·refine(aF (w:=W3) (a:=⟨eb,0+i,none⟩) (hkp eb ahk.out (fun e=>?_) (fun e=>?_))).trans (acT.out i u hu)
       ·have h1:=HB.out.lt lb (aK rfl);have h2:=wG.out.1;omega
       exact akm.out e
      ·have e:g6=k:=ax hk;subst e
       rcases hat6 with q|q
       ·exact HGM.out.1 g6 q
       have h1:=Bd.out.size;have h2:=acW.out.size;exact aP aJ
      have h1:=acW.out;refine⟨?_,?_,?_,?_,fun k hk hF=>(hkp k (aB hk h1.size) (fun e=>hF (aK e)) (fun e=>?_)).trans (h1.block k hk hF)⟩
      ·rw[Zi];exact hg6.os.trans (Bd.out.os.trans h1.os)
      ·rw[Zi];exact hg6.tape.trans (Bd.out.tape.trans h1.tape)
      ·rw[Zi];exact hg6.output.trans (Bd.out.output.trans h1.output)
      ·rw[Zi,dI];exact aC h1.size (aC Bd.out.size hg6.size)
      rcases HGM.out.1 k e with q|q
      ·exact hF (aP (aP q))
      omega
     refine hK _ _ ?_;clear hK K hv6 hg6 hat6 hlt6 hrow6;refine uA 9 (.pointer (some ⟨lb,0,none⟩)) rfl<|uA 10 (.pointer (some ⟨lb,1,none⟩)) rfl ?_
     refine rA 11 rfl fun K hK=>?_
     go_simp;refine hK _ _ ?_;clear hK K;refine yR dD ?_ _;rw[<-Zi];clear hv5 Zi d6 f6 adI HVJ HNR HD8 Bd HN8
     go_wp2_with fail
   all_goals
    have HS9:Hid (∃w9,(Instr.mapUpdate 268 (.map (some mb)) (.string x) (.agg RC)).run Tryz.prog W5.drew=.ok () w9/\eu GJ (.agg Tryz.zeroCells372) w9 mb (n+j+1) (yI (jd Lj r))/\W5.drew.grownBy w9 (some mb)):=by
     obtain⟨w9,h1,h2,h3⟩:=(Ac.out.last.keep (w':=W5.drew) rfl).store (t:=268) Tryz.underlying268 (by have:=HOK.out.2.2.1;unfold maxLen;omega) x (by have:=Ew.out.1.name;rw[<-hx];unfold maxLen;omega) (.agg RC) (by rw[<-hRC];exact ab1 r);refine⟨w9,h1,?_,h3⟩;rw[<-Wy,hx,hRC];exact h2
    have dP:Hid (W5.drew.cell? ⟨lb,2,none⟩=some (.map (some mb))/\W5.drew.rangeAt eb 0 (bJ r)):=by
     have hr5:W5.drew.heap[lb]?=_:=Ac.out.row;exact⟨by rw[aj _ _ _ _ _ _ hr5];rfl,fun i u hu=>Ac.out.cells i u hu⟩
    have HI2:Hid ((Tryz.prog.info? 372).map (·.size)=some (bJ r).length):=by rw[iV Ew.out.1];exact HI.out
    refine dJ (S:=fun w'=>w'.cell? ⟨lb,2,none⟩=some (.map (some mb))/\w'.rangeAt eb 0 (bJ r)) dD ?_;change wpAnyH _ _ _ _ _ _ _ _ (World.drew _);refine tH 0 (.pointer (some ⟨lb,0,none⟩)) rfl dP.out (aK ⟨dD,?_⟩) ?_
    ·intro w' hS;have q1:=hS.1
     have q2:w'.cell? ⟨eb,0,none⟩=some (.string x):=by rw[<-hx];exact hS.2 0 _ rfl
     clear hS;go_simp
    refine tH 1 (.pointer (some ⟨lb,0,none⟩)) rfl dP.out (aK ⟨dD,?_⟩) ?_
    ·intro w' hS;have q1:=hS.1
     have q2:w'.cell? ⟨eb,0,none⟩=some (.string x):=by rw[<-hx];exact hS.2 0 _ rfl
     clear hS;go_simp
    refine tH 2 (.pointer (some ⟨lb,2,none⟩)) rfl dP.out (aK ⟨dD,?_⟩) ?_
    ·intro w' hS;have q1:=hS.1
     have q2:w'.cell? ⟨eb,0,none⟩=some (.string x):=by rw[<-hx];exact hS.2 0 _ rfl
     clear hS;go_simp
    refine tH 3 (.map (some mb)) rfl dP.out (aK ⟨dD,?_⟩) ?_
    ·intro w' hS;have q1:=hS.1
     have q2:w'.cell? ⟨eb,0,none⟩=some (.string x):=by rw[<-hx];exact hS.2 0 _ rfl
     clear hS;go_simp
    refine tH 4 (.pointer (some ⟨eb,0,none⟩)) rfl dP.out (aK ⟨dD,?_⟩) ?_
    ·intro w' hS;have q1:=hS.1
     have q2:w'.cell? ⟨eb,0,none⟩=some (.string x):=by rw[<-hx];exact hS.2 0 _ rfl
     clear hS;go_simp
    refine tH 5 (.string x) rfl dP.out (aK ⟨dD,?_⟩) ?_
    ·intro w' hS;have q1:=hS.1
     have q2:w'.cell? ⟨eb,0,none⟩=some (.string x):=by rw[<-hx];exact hS.2 0 _ rfl
     clear hS;go_simp
    refine kJ (i:=6) rfl dD dD dD (fun _ _ _ h=>h) (acO dD 372 (.tmp 5) rfl eb 0 rfl (bJ r) _ (fun w' h=>h.2) Tryz.underlying372 rfl HI2.out) dP.out ?_;rw[hRC];obtain⟨w9,h9,aeU,Ct⟩:=HS9.out;have XB:=aV (aO aeU Ct);clear aeU Ct HS9 HI2
    refine rH 7 rfl fun K hK=>?_
    go_simp
    have HR9:Hid (w9.heap[lb]?=some (.cells #[.int .i64 (Lj.count:Nat),v5,.map (some mb)] 270 (0,0))):=(XB.out.2.block lb (bN Ac.out.row) (fun e=>by
     have h1:=Ac.out.row;obtain⟨es,cl,h2⟩:=Ac.out.last.obj;rw[<-ax e] at h2;rw[h1] at h2
     cases h2)).trans Ac.out.row
    refine hK.out _ _ ⟨by rw[aj _ _ _ _ _ _ HR9.out];rfl,fun i u hu=>(aF (w:=W5) (a:=⟨eb,0+i,none⟩) (XB.out.2.block eb (aG (Ac.out.cells i u hu)) (fun e=>?_))).trans (Ac.out.cells i u hu)⟩ (fun _=>?_)
    ·have h1:=HB.out.lt mb (aP (aK rfl));have h2:=wG.out.1;have h3:=ax e;omega
    clear hK K h9;refine eX dD ?_ _
    have c9:w9.cell? ⟨lb,0,none⟩=some (.int .i64 (Lj.count:Nat)):=by rw[aj _ _ _ _ _ _ HR9.out];rfl
    have f9:w9.frozen? ⟨lb,0,none⟩=false:=aD _ _ _ _ _ HR9.out
    have k9:(Lj.count:Int)<=2000000000000:=by have:=HLC.out;omega
    have Bc:Hid (jK (w9.setCell ⟨lb,0,none⟩ (.int .i64 ((Lj.count:Int)+1))) lb mb v5 (n+(j+1)) ((l.take (j+1)).foldl jd L)/\(∀k,v5.ownBlock=some k->vn.ownBlock=some k\/w.heap.size<=k)/\lF (oJ lb mb vn) w (w9.setCell ⟨lb,0,none⟩ (.int .i64 ((Lj.count:Int)+1)))):=by
     rw[Ew.out.2];have hm:=Ac.out
     have h5:∀k,k<W5.heap.size->k≠lb->k≠mb->(w9.setCell ⟨lb,0,none⟩ (.int .i64 ((Lj.count:Int)+1))).heap[k]?=W5.heap[k]?:=fun k hk h1 h2=>by
      rw[au _ _ _ _ (show k≠lb from h1)];exact XB.out.2.block k hk (fun e=>h2 (ax e))
     have hne:lb≠mb:=fun e=>by
      obtain⟨es,cl,h2⟩:=hm.last.obj;rw[<-e,hm.row] at h2
      cases h2
     have Rx:∀k,v5.ownBlock=some k->k≠lb/\k≠mb:=fun k hk=>⟨fun e=>vL hm.row hm.names (fun cs f e=>by injection e with _ e _;exact absurd e bS) (by rw[<-e];exact hk),fun e=>by
      obtain⟨es,cl,h2⟩:=hm.last.obj
      exact vL h2 hm.names (fun cs f e=>by cases e) (by rw[<-e];exact hk)⟩
     refine⟨⟨?_,dR hm.names (fun k hk=>h5 k (bF hm.names k hk).2 (Rx k hk).1 (Rx k hk).2),?_,CO.out.ok.note r,fun y q hq=>?_⟩,hm.grew,?_⟩
     ·rw[aR _ _ _ _ _ _ HR9.out];rfl
     ·exact XB.out.1.keep (au _ _ _ _ (show mb≠lb from fun e=>hne e.symm))
     ·have hq':(if y=r.name then some r else Lj.last y)=some q:=hq
      by_cases g:y=r.name
      ·rw[aH g] at hq';rw[<-ax hq'];exact Ew.out.1
      rw[aA g] at hq';exact CO.out.recs y q hq'
     have h1:=hm.moves;have h2:=XB.out.2;refine⟨h2.os.trans h1.os,h2.tape.trans h1.tape,h2.output.trans h1.output,?_,fun k hk hF=>(h5 k (aB hk h1.size) (fun e=>hF (aK e)) (fun e=>hF (aP (aK e)))).trans (h1.block k hk hF)⟩;rw[dI];exact aC h1.size h2.size
    clear XB Ac HR9 dP CO acT acW ahk hx
    go_wp2_with fail
    exact⟨⟨j+1,v5,oW,aJ,Bc.out⟩,by simp[intOf];omega⟩
  obtain rfl:j=LL:=aJ
  have HFIN:Hid (∃Ny,jK wr lb mb Ny (n+j) (l.foldl jd L)/\(∀k,Ny.ownBlock=some k->vn.ownBlock=some k\/w.heap.size<=k)/\lF (oJ lb mb vn) w wr):=by
   have h:=tC.out;rw[bK (dG HL.out)] at h;exact⟨vj,h,HGM.out⟩
  clear tC
  go_wp2
  first|go_end0|refine bV (eY rfl _ _ _) rfl ?_
  exact⟨rfl,HFIN.out⟩
end
end Go.Proofs.YthhbpebihgjpjaaGreatDoor
