import Derived.Test.YthhbpebihgjpjaaGreatDoorZ11
import Derived.Test.YthhbpebihgjpjaaGreatDoorZ20
namespace Go.Proofs.YthhbpebihgjpjaaGreatDoor
set_option maxRecDepth 1000000
set_option maxHeartbeats 20000000
set_option linter.all false
section
open Go.RowKit Go.Maps
def yG(L:ku)(x:ah):Option Value:=(L.last x).map fun r=>.agg (bE r).toArray
theorem Fb(L:ku)(x:ah):(yG L x).isSome=(L.last x).isSome:=by unfold yG;rw[Yz]
theorem Wx(L:ku)(r:gm):(fun y=>if y=r.name then some (Value.agg (bE r).toArray) else yG L y)=yG (iY L r):=by
 funext y
 show _=(if y=r.name then some r else L.last y).map _
 by_cases q:y=r.name
 ·rw[aD q,aD q];rfl
 rw[ax q,ax q];rfl
structure jG(w:aj)(lb mb:Nat)(vn:Value)(n:Nat)(L:ku):Prop where
 row:w.heap[lb]?=some (.cells #[.int .i64 (L.count:Nat),vn,.map (some mb)] 270 (0,0))
 names:w.ownsRow 0 9 1 vn L.names.length (L.names.map Value.string)
 last:dU GI (.agg Tryz.zeroCells372) w mb n (yG L)
 ok:wR L
 recs:∀x r,L.last x=some r->lN r
def oI(lb mb:Nat)(vn:Value)(k:Nat):Prop:=k=lb\/k=mb\/vn.ownBlock=some k
variable {w:aj}{b n:Nat}
theorem dU.obj{C:zC}{z:Value}{f:ah->Option Value}(h:dU C z w b n f):∃es clock,w.heap[b]?=some (.map es clock):=by
 obtain⟨_,_,_,_,⟨es,clock,hb,_⟩,_⟩:=h;exact⟨es,clock,hb⟩
variable {v:Value}
theorem vJ{B:Nat}{o:Obj}{e:TypeId}{s:Nat}{xs:List Value}(h:w.heap[b]?=some o)(ho:w.ownsRow B e s v n xs)(hne:∀cs f,o≠.cells cs e f):v.ownBlock≠some b:=by
 intro hk;obtain⟨h1,⟨rfl,h0⟩|⟨g,cap,cur,rfl,hg,hh,r⟩⟩:=ho
 ·cases hk
 have e1:g=b:=ak hk;subst e1;rw[hh] at h;exact hne _ _ (ak h).symm
variable {lb mb:Nat}{vn:Value}{L:ku}
theorem jG.apart(h:jG w lb mb vn n L):lb≠mb/\vn.ownBlock≠some lb/\vn.ownBlock≠some mb:=by
 obtain⟨es,clock,hm⟩:=h.last.obj;refine⟨fun e=>?_,vJ h.row h.names (fun cs f e=>?_),vJ hm h.names (fun cs f e=>?_)⟩
 ·subst e;rw[h.row] at hm
  cases hm
 ·injection e with _ e _;exact absurd e (by decide)
 cases e
theorem jG.lt(h:jG w lb mb vn n L)(k:Nat)(hk:oI lb mb vn k):k<w.heap.size:=by
 rcases hk with rfl|rfl|hk
 ·exact bI h.row
 ·exact h.last.lt
 exact(bA h.names k hk).2
variable {w':aj}
theorem jG.keep(h:jG w lb mb vn n L)(hb:∀k,oI lb mb vn k->w'.heap[k]?=w.heap[k]?):jG w' lb mb vn n L:=
 ⟨(hb lb (aG rfl)).trans h.row,dL h.names (fun k hk=>hb k (aL (aL hk))),h.last.keep (hb mb (aL (aG rfl))),h.ok,h.recs⟩
theorem jG.below(h:jG w lb mb vn n L)(hb:Below w.heap.size w w'):jG w' lb mb vn n L:=h.keep (fun k hk=>hb.block k (h.lt k hk))
structure XH(w:aj)(lb mb eb:Nat)(vn:Value)(n:Nat)(L:ku)(r:gm)(v5:Value)(W:aj):Prop where
 row:W.heap[lb]?=some (.cells #[.int .i64 (L.count:Nat),v5,.map (some mb)] 270 (0,0))
 names:W.ownsRow 0 9 1 v5 (iY L r).names.length ((iY L r).names.map Value.string)
 last:dU GI (.agg Tryz.zeroCells372) W mb n (yG L)
 cells:W.rangeAt eb 0 (bE r)
 new:w.heap.size<=eb
 grew:∀k,v5.ownBlock=some k->vn.ownBlock=some k\/w.heap.size<=k
 moves:lm (oI lb mb vn) w W
theorem yT(w:aj):(zeroValue 372).run Tryz.prog w=.ok (.agg Tryz.zeroCells372) w:=by kernel_rfl
theorem ZP:∃d p,GI.R (.agg Tryz.zeroCells372)=some (d,p):=by
 have h:(GI.R (.agg Tryz.zeroCells372)).isSome=true:=by kernel_rfl
 obtain⟨⟨d,p⟩,h⟩:=fI.1 h;exact⟨d,p,h⟩
theorem KU{l:List gm}(h:jG w lb mb vn n L)(hr:sw w v l)(hro:∀r∈l,lN r)(hap:l=[]\/∀a m c,v=.slice (some a) m c->¬oI lb mb vn a.block)(hl:l.length<=1000000000000)(hn:n<=1000000000000)(hc:L.count<=1000000000000):
  Calls Tryz.prog 241 #[.pointer (some ⟨lb,0,none⟩),v] w fun e w'=>e=.returned (.tuple #[])/\∃Nv,jG w' lb mb Nv (n+l.length) (l.foldl iY L)/\(∀k,Nv.ownBlock=some k->vn.ownBlock=some k\/w.heap.size<=k)/\lm (oI lb mb vn) w w':=by
 obtain⟨ao,cap,rfl,hcap,hg⟩:=id hr;have HR:=aP hg;have HOK:Hid ((∀r∈l,lN r)/\(l=[]\/∀a,ao=some a->¬oI lb mb vn a.block)/\n<=1000000000000/\L.count<=1000000000000):=⟨hro,hap.imp_right (fun h a e=>h a _ _ (by rw[e])),hn,hc⟩
 have HI:Hid ((Tryz.prog.info? 372).map (·.size)=some 65):=by unfold Hid;kernel_rfl
 have HZ:Hid (Tryz.zeroCells372.size=65/\Tryz.zeroCells372.all (·.oneCell')=true):=⟨by kernel_rfl,by kernel_rfl⟩
 have hinf:(Tryz.prog.info? 9).map (fun i=>(i.size,i.bytes,i.zero))=some (1,16,some (.string ⟨#[]⟩)):=by kernel_rfl
 obtain⟨tj,hti,htj⟩:=aX.1 hinf;simp only[Prod.mk.injEq] at htj;have HTJ:=aP (aK hti (aK htj.1 (aK htj.2.1 htj.2.2)));have HB:=aP h;clear h hr hro hap hcap hg hinf hti htj hc;generalize hL:l.length=LL at*;have HL:=aP hL
 have l0:(LL:Int)<=1000000000000:=by omega
 clear hL
 go_enter Tryz.func241,Tryz.ntmps241
 go_wp2_with fail
 go_loopw [10] (fun i wr=>∃(j:Nat) (vj:Value),i=.int .i64 j/\j<=LL/\jG wr lb mb vj (n+j) ((l.take j).foldl iY L)/\(∀k,vj.ownBlock=some k->vn.ownBlock=some k\/w.heap.size<=k)/\lm (oI lb mb vn) w wr) (fun i _=>LL-(intOf i).toNat)
 case atStart=>exact⟨0,vn,rfl,aN _,HB.out,fun _ h=>aG h,lm.refl _ _⟩
 case round=>
  obtain⟨j,vj,rfl,hj,hbk,hgw,hmv⟩:=hrel;have sZ:=aP hbk;have HGM:=aP (aK hgw hmv);clear hbk hgw hmv
  have j0:(0:Int)<=(j:Int):=by omega
  by_cases hlt:j<LL
  ·have j1:(j:Int)<(LL:Int):=by omega
   obtain⟨r,hr⟩:∃r,l[j]?=some r:=⟨l[j]'(by have:=HL.out;omega),by simp⟩
   obtain⟨g,o,rfl,hgl,hrg⟩:∃g o,ao=some ⟨g,o,none⟩/\g<w.heap.size/\∀(k:Nat) r,l[k]?=some r->w.rangeAt g (o+k*65) (bE r):=by
    rcases HR.out with q|q
    ·rw[q] at hr;simp at hr
    exact q
   have ah8:∀a,some (⟨g,o,none⟩:Addr)=some a->¬oI lb mb vn a.block:=by
    rcases HOK.out.2.1 with q|q
    ·rw[q] at hr;simp at hr
    exact q
   have HRG:Hid (wr.rangeAt g (o+j*65) (bE r)):=fun i u hu=>(aB (w:=w) (a:=⟨g,o+j*65+i,none⟩) (HGM.out.2.block g hgl (ah8 _ rfl))).trans (hrg j r hr i u hu)
   have hro:=HOK.out.1 r (aO hr);have Ev:Hid (lN r/\(l.take (j+1)).foldl iY L=iY ((l.take j).foldl iY L) r):=⟨hro,by rw[dN,hr,lT,yX];rfl⟩
   have HLC:Hid (((l.take j).foldl iY L).count<=2000000000000):=by
    have gg:∀(l:List gm) (L:ku),(l.foldl iY L).count=L.count+l.length:=by
     intro l
     induction l with
     |nil=>exact fun _=>rfl
     |cons r l ih=>intro L;rw[jr,ih];show L.count+1+l.length=L.count+(l.length+1);omega
    show _<=_;rw[gg,gV];have:=HOK.out.2.2.2;omega
   have HI2:Hid ((Tryz.prog.info? 372).map (·.size)=some (bE r).length):=by rw[iO hro];exact HI.out
   have wU:Hid ((bE r).toArray.size=65/\(bE r).toArray.all (·.oneCell')=true):=⟨by rw[bT];exact iO hro,dY (lK r)⟩;generalize (l.take j).foldl iY L=Lj at*;clear hrg hr hro ah8
   go_wp2_with (first
    | (refine nX rfl 372 (.tmp 12) rfl g (o+j*65) rfl (bE r) _ HRG.out Tryz.underlying372 rfl HI2.out ?_;refine dI ?_)
    |fail)
   clear HRG;have Nz:Hid ((bE r).toArray.toList=bE r):=rfl;generalize hRC:(bE r).toArray=RC at*;unfold Hid
   go_wp2_with (first
    | (refine bU rfl 372 (.tmp 5) (.tmp 13) rfl wr.heap.size 0 RC rfl rfl (bM (aW _ _ _ rfl) 0 _ (by rw[wU.out.1];decide)) (by rw[wU.out.1];exact HI.out) wU.out.2 ?_;refine dI ?_)
    |fail)
   have HW2:Hid (Below wr.heap.size wr ((wr.alloc (.cells Tryz.zeroCells372 372)).setCells wr.heap.size 0 RC.toList)/\((wr.alloc (.cells Tryz.zeroCells372 372)).setCells wr.heap.size 0 RC.toList).rangeAt wr.heap.size 0 (bE r)):=by
    rw[<-Nz.out];refine⟨ji _ _ ((au _ _).alloc (ai _) _) (ai _),dW _ _ _ _ (bM (aW _ _ _ rfl) 0 _ (by rw[aR,wU.out.1];decide))⟩
   generalize (wr.alloc (.cells Tryz.zeroCells372 372)).setCells wr.heap.size 0 RC.toList=W2 at*
   obtain⟨C,hC,hCs,hCo⟩:∃C,(yG Lj r.name).getD (.agg Tryz.zeroCells372)=.agg C/\C.size=65/\C.all (·.oneCell')=true:=by
    unfold yG
    cases hq:Lj.last r.name with
    |none=>exact⟨_,rfl,HZ.out⟩
    |some r0=>exact⟨_,rfl,by rw[bT];exact iO (sZ.out.recs _ _ hq),dY (lK r0)⟩
   have HC:=aP (aK hCs hCo);have hkn:((yG Lj r.name).isSome)=(Lj.last r.name).isSome:=Fb _ _;have acP:=aP (sZ.out.below HW2.out.1);generalize hEB:wr.heap.size=eb at*
   have wC:Hid (w.heap.size<=eb/\eb<W2.heap.size):=⟨by rw[<-hEB];exact HGM.out.2.size,by
    have h:=HW2.out.2 0 _ rfl
    exact aC h⟩
   have akm:Hid (vj.ownBlock≠some eb):=fun e=>by
    have h:=sZ.out.lt eb (aL (aL e));omega
   have HMV:Hid (lm (oI lb mb vn) w W2):=by
    have h1:=HGM.out.2;have h2:=HW2.out.1;refine⟨h2.os.trans h1.os,h2.tape.trans h1.tape,h2.output.trans h1.output,aA h1.size h2.size,fun k hk hF=>(h2.block k (by have:=h1.size;omega)).trans (h1.block k hk hF)⟩
   have HQ:Hid (∀w',Below W2.heap.size W2 w'->w'.cell? ⟨lb,2,none⟩=some (.map (some mb))/\w'.cell? ⟨eb,0,none⟩=some (.string r.name)/\(Instr.lookup 268 (.map (some mb)) (.string r.name) true).run Tryz.prog w'=.ok (.tuple #[.agg C,.bool (Lj.last r.name).isSome]) w'):=by
    refine fun w' hb=>⟨?_,?_,?_⟩
    ·rw[bZ (acP.out.below hb).row];rfl
    ·exact(hb.cell (p:=⟨eb,0,none⟩) wC.out.2).trans (HW2.out.2 0 _ rfl)
    rw[(acP.out.below hb).last.look_ok (t:=268) Tryz.underlying268 yT r.name (by have:=Ev.out.1.name;unfold maxLen;omega),hC,hkn]
   have HCE:=aP HW2.out.2;clear hC hCs hCo hkn HW2 sZ hEB HI2 Nz;generalize hx:r.name=x at*;generalize adF:(Lj.last x).isSome=kn at*;unfold Hid
   go_wp2_with fail
   refine dB (S:=fun w'=>Below W2.heap.size W2 w') (by kernel_rfl) ?_;change wpAnyH _ _ _ _ _ _ _ _ (World.drew _);have gP:Hid (Below W2.heap.size W2 W2.drew):=(au _ _).drew;refine uQ 0 (.pointer (some ⟨lb,0,none⟩)) rfl gP.out HQ.out ?_<|uQ 1 (.pointer (some ⟨lb,0,none⟩)) rfl gP.out HQ.out ?_<|uQ 2 (.pointer (some ⟨lb,2,none⟩)) rfl gP.out HQ.out ?_<|uQ 3 (.map (some mb)) rfl gP.out HQ.out ?_<|uQ 4 (.pointer (some ⟨eb,0,none⟩)) rfl gP.out HQ.out ?_<|uQ 5 (.string x) rfl gP.out HQ.out ?_<|uQ 6 (.tuple #[.agg C,.bool kn]) rfl gP.out HQ.out ?_<|uQ 7 (.tuple #[.agg C,.bool kn]) rfl gP.out HQ.out ?_<|uQ 8 (.agg C) rfl gP.out HQ.out ?_<|uQ 9 (.bool kn) rfl gP.out HQ.out ?_ ?_;(iterate 10 ·exact⟨by kernel_rfl,kI,by rintro w' ⟨q1,q2,q3⟩;go_simp⟩)
   refine rH 10 rfl (by kernel_rfl) fun K hK=>?_
   go_simp;generalize hZ0:Tryz.zeroCells372=Z at*;clear hZ0;have HBd:Hid (Below W2.heap.size W2 (W2.drew.alloc (.cells Z 372))):=gP.out.alloc (ai _) _;refine hK.out _ _ HBd.out (fun _=>?_);clear hK K
   refine rH 11 rfl (by kernel_rfl) fun K hK=>?_
   rw[aD (by kernel_rfl)];refine wp_store_mid 372 (.tmp 6) (.tmp 22) rfl W2.heap.size 0 C rfl rfl (bM (aW _ _ _ rfl) 0 _ (by rw[HC.out.1,HZ.out.1];decide)) (by rw[HC.out.1];exact HI.out) HC.out.2 ?_;have HBe:Hid (Below W2.heap.size W2 ((W2.drew.alloc (.cells Z 372)).setCells W2.heap.size 0 C.toList)):=ji _ _ HBd.out (ai _);change K _ ((W2.drew.alloc (.cells Z 372)).setCells W2.heap.size 0 C.toList);generalize (W2.drew.alloc (.cells Z 372)).setCells W2.heap.size 0 C.toList=W3 at*;refine hK.out _ _ HBe.out (fun _=>?_);clear hK K gP HBd;have gP:=aP (HBe.out);refine uQ 12 (.bool kn) rfl gP.out HQ.out ⟨by kernel_rfl,kI,by rintro w' ⟨q1,q2,q3⟩;go_simp⟩ ?_;refine eF (by kernel_rfl) ?_ _;have CJ:=aP (acP.out.below gP.out)
   have acQ:Hid (W3.rangeAt eb 0 (bE r)):=fun i u hu=>(gP.out.cell (p:=⟨eb,0+i,none⟩) wC.out.2).trans (HCE.out i u hu)
   have acT:Hid (lm (oI lb mb vn) w W3):=by
    have h1:=HMV.out;have h2:=gP.out;exact⟨h2.os.trans h1.os,h2.tape.trans h1.tape,h2.output.trans h1.output,aA h1.size h2.size,fun k hk hF=>(h2.block k (by have:=h1.size;omega)).trans (h1.block k hk hF)⟩
   have ahg:Hid (eb<W3.heap.size):=by have:=wC.out.2;have:=gP.out.size;show _<_;omega
   clear gP HBe acP HCE HMV HQ HC wU
   rcases kn with _|_
   case' true=>
    obtain⟨W5,Zh⟩:∃W5,W5=W3:=⟨_,rfl⟩;obtain⟨v5,hv5⟩:∃v5,v5=vj:=⟨_,rfl⟩
    have Aa:Hid (XH w lb mb eb vn (n+j) Lj r v5 W5):=by
     rw[Zh,hv5];have hnm:(iY Lj r).names=Lj.names:=aD (by rw[hx];exact adF);exact⟨CJ.out.row,by rw[hnm];exact CJ.out.names,CJ.out.last,acQ.out,wC.out.1,HGM.out.1,acT.out⟩
    go_wp2_with fail
    rw[<-Zh];clear hv5 Zh adF
   case' false=>
    obtain⟨aoN,VF,Na,_,_⟩:=bq CJ.out.names;have HNR:=aP CJ.out.names;have CY:=aP (aA CJ.out.ok.le HLC.out);have HNE:=aP (aK CJ.out.apart.2.1 (aK CJ.out.apart.2.2 CJ.out.apart.1));generalize hNL:Lj.names.length=NL at*
    have c1:W3.cell? ⟨lb,1,none⟩=some vj:=by rw[bZ CJ.out.row];rfl
    have c2:W3.cell? ⟨eb,0,none⟩=some (.string x):=by rw[<-hx];exact acQ.out 0 _ rfl
    have HLB:=aP (aC c1);have c1a:(W3.alloc (.cells #[.string x] 9)).cell? ⟨lb,1,none⟩=some vj:=(aB (w:=W3) (a:=⟨lb,1,none⟩) (aZ _ _ lb HLB.out)).trans c1;have HVJ:=aP Na;subst Na
    go_wp2_with fail
    refine jT (by kernel_rfl) ?_;change wpAny _ _ _ _ _ _ _ (World.drew _);refine uA 0 (.pointer (some ⟨lb,0,none⟩)) rfl ?_<|uA 1 (.pointer (some ⟨lb,0,none⟩)) rfl ?_<|uA 2 (.pointer (some ⟨lb,0,none⟩)) rfl ?_<|uA 3 (.pointer (some ⟨lb,1,none⟩)) rfl ?_<|uA 5 (.pointer (some ⟨eb,0,none⟩)) rfl ?_ ?_;(iterate 5 ·exact⟨by kernel_rfl,kI,by intro w;go_simp⟩)
    refine pA 4 6 rfl rfl (by kernel_rfl) (fun K hK=>?KY) fun K hK=>?KZ
    case' KY=>
     go_simp;refine hK _ _ ?_;clear hK K
     refine rA 6 rfl (by kernel_rfl) fun K hK=>?_
     go_simp;refine hK _ _ ?_;clear hK K
     refine rA 7 rfl (by kernel_rfl) fun K hK=>?_
     go_simp
    case' KZ=>
     go_simp;refine hK _ _ ?_;clear hK K
     refine pA 4 7 rfl rfl (by kernel_rfl) (fun K hK=>?QG) fun K hK=>?QH
     case' QG=>
      go_simp;refine hK _ _ ?_;clear hK K
      refine rA 7 rfl (by kernel_rfl) fun K hK=>?_
      go_simp
     case' QH=>
      go_simp;refine hK _ _ ?_;clear hK K
      refine rA 4 rfl (by kernel_rfl) fun K hK=>?_
      go_simp
    case' _|_|_=>
     refine hK _ _ ?_;clear hK K;obtain⟨W8,Gq⟩:∃W8,W8=(W3.alloc (.cells #[.string x] 9)).drew:=⟨_,rfl⟩
     have Bb:Hid (Below W3.heap.size W3 W8):=by rw[Gq];exact((au _ _).alloc (ai _) _).drew
     have HN8:Hid (∀j u,([.string x]:List Value)[j]?=some u->W8.cell? ((⟨W3.heap.size,0,none⟩:Addr).add j)=some u):=by rw[Gq];exact iH W3 _ _
     rw[<-Gq];clear Gq c1a c1 c2;have HD8:Hid (W8.ownsRow 0 9 1 (.slice aoN NL VF) NL (Lj.names.map Value.string)):=dL HNR.out (fun k hk=>Bb.out.block k (bA HNR.out k hk).2)
     refine rA 8 rfl (by kernel_rfl) fun K hK=>?_
     refine step_append_lies _ rfl (.tmp 30) (.tmp 33) 32 rfl 0 9 tj (.string ⟨#[]⟩) 1 16 Tryz.underlying32 HTJ.out.1 HTJ.out.2.2.2 HTJ.out.2.1 HTJ.out.2.2.1 rfl (by decide) _ NL (Lj.names.map Value.string) rfl HD8.out ⟨W3.heap.size,0,none⟩ 1 1 [.string x] rfl rfl HN8.out (by intro u hu;simp only[aV,dz,ko] at hu;rcases hu with rfl;rfl) (by decide) (by have:=CY.out;unfold maxLen;omega) (by have:=CY.out;omega) (aN _) _ rfl ?_;intro g6 cap6 w6 hv6 hg6 hat6 hlt6;have hrow6:w6.heap[lb]?=some (.cells #[.int .i64 (Lj.count:Nat),.slice aoN NL VF,.map (some mb)] 270 (0,0)):=(hg6.block lb (ay HLB.out Bb.out.size) (fun e=>HNE.out.1 e.symm)).trans ((Bb.out.block lb HLB.out).trans CJ.out.row)
     have d6:w6.cell? ⟨lb,1,none⟩=some (.slice aoN NL VF):=by rw[bZ hrow6];rfl
     have f6:w6.frozen? ⟨lb,1,none⟩=false:=iG hrow6;obtain⟨W5,Zh⟩:∃W5,W5=w6.setCell ⟨lb,1,none⟩ (.slice (some ⟨g6,0,none⟩) (NL+1) cap6):=⟨_,rfl⟩;obtain⟨v5,hv5⟩:∃v5,v5=Value.slice (some ⟨g6,0,none⟩) (NL+1) cap6:=⟨_,rfl⟩
     have Aa:Hid (XH w lb mb eb vn (n+j) Lj r v5 W5):=by
      rw[hv5]
      have alv:g6≠lb:=fun e=>by
       rcases hat6 with q|q
       ·exact HNE.out.1 (by rw[<-e];exact q)
       have h1:=HLB.out;have h2:=Bb.out.size;omega
      have hkp:∀k,k<W3.heap.size->k≠lb->(Value.slice aoN NL VF).ownBlock≠some k->W5.heap[k]?=W3.heap[k]?:=fun k hk h1 h2=>by
       rw[Zh,iP (show k≠lb from h1),hg6.block k (ay hk Bb.out.size) (fun e=>h2 e.symm)];exact Bb.out.block k hk
      have hnm:(iY Lj r).names=Lj.names++[x]:=by
       rw[<-hx];exact ax (by rw[hx,adF];exact eX)
      refine⟨?_,?_,CJ.out.last.keep (hkp mb CJ.out.last.lt (fun e=>HNE.out.2.2 e.symm) HNE.out.2.1),fun i u hu=>?_,wC.out.1,fun k hk=>?_,?_⟩
      ·rw[Zh,xY hrow6];rfl
      ·rw[hnm,aF,iC,hNL,Zh];exact dL hv6 (fun k hk=>iP (show k≠lb from fun e=>alv (by rw[<-e];exact ak hk)))
      ·refine(aB (w:=W3) (a:=⟨eb,0+i,none⟩) (hkp eb ahg.out (fun e=>?_) (fun e=>?_))).trans (acQ.out i u hu)
       ·have h1:=HB.out.lt lb (aG rfl);have h2:=wC.out.1;omega
       exact akm.out e
      ·have e:g6=k:=ak hk;subst e
       rcases hat6 with q|q
       ·exact HGM.out.1 g6 q
       have h1:=Bb.out.size;have h2:=acT.out.size;exact aL (by omega)
      have h1:=acT.out;refine⟨?_,?_,?_,?_,fun k hk hF=>(hkp k (ay hk h1.size) (fun e=>hF (aG e)) (fun e=>?_)).trans (h1.block k hk hF)⟩
      ·rw[Zh];exact hg6.os.trans (Bb.out.os.trans h1.os)
      ·rw[Zh];exact hg6.tape.trans (Bb.out.tape.trans h1.tape)
      ·rw[Zh];exact hg6.output.trans (Bb.out.output.trans h1.output)
      ·rw[Zh,dA];exact aA h1.size (aA Bb.out.size hg6.size)
      rcases HGM.out.1 k e with q|q
      ·exact hF (aL (aL q))
      omega
     refine hK _ _ ?_;clear hK K hv6 hg6 hat6 hlt6 hrow6;refine uA 9 (.pointer (some ⟨lb,0,none⟩)) rfl ?_<|uA 10 (.pointer (some ⟨lb,1,none⟩)) rfl ?_ ?_;(iterate 2 ·exact⟨by kernel_rfl,kI,by intro w;go_simp⟩)
     refine rA 11 rfl (by kernel_rfl) fun K hK=>?_
     go_simp;refine hK _ _ ?_;clear hK K;refine yP (by kernel_rfl) ?_ _;rw[<-Zh];clear hv5 Zh d6 f6 adF HVJ HNR HD8 Bb HN8
     go_wp2_with fail
   all_goals
    have HS9:Hid (∃w9,(Instr.mapUpdate 268 (.map (some mb)) (.string x) (.agg RC)).run Tryz.prog W5.drew=.ok () w9/\dU GI (.agg Tryz.zeroCells372) w9 mb (n+j+1) (yG (iY Lj r))/\W5.drew.grownBy w9 (some mb)):=by
     obtain⟨w9,h1,h2,h3⟩:=(Aa.out.last.keep (w':=W5.drew) rfl).store (t:=268) Tryz.underlying268 (by have:=HOK.out.2.2.1;unfold maxLen;omega) x (by have:=Ev.out.1.name;rw[<-hx];unfold maxLen;omega) (.agg RC) (by rw[<-hRC];exact ab0 r);refine⟨w9,h1,?_,h3⟩;rw[<-Wx,hx,hRC];exact h2
    have dJ:Hid (W5.drew.cell? ⟨lb,2,none⟩=some (.map (some mb))/\W5.drew.rangeAt eb 0 (bE r)):=by
     have hr5:W5.drew.heap[lb]?=_:=Aa.out.row;exact⟨by rw[bZ hr5];rfl,fun i u hu=>Aa.out.cells i u hu⟩
    have HI2:Hid ((Tryz.prog.info? 372).map (·.size)=some (bE r).length):=by rw[iO Ev.out.1];exact HI.out
    refine dB (S:=fun w'=>w'.cell? ⟨lb,2,none⟩=some (.map (some mb))/\w'.rangeAt eb 0 (bE r)) (by kernel_rfl) ?_;change wpAnyH _ _ _ _ _ _ _ _ (World.drew _);refine tH 0 (.pointer (some ⟨lb,0,none⟩)) rfl (by kernel_rfl) dJ.out (aG ⟨by kernel_rfl,?_⟩) kI ?_
    ·intro w' hS;have q1:=hS.1
     have q2:w'.cell? ⟨eb,0,none⟩=some (.string x):=by rw[<-hx];exact hS.2 0 _ rfl
     clear hS;go_simp
    refine tH 1 (.pointer (some ⟨lb,0,none⟩)) rfl (by kernel_rfl) dJ.out (aG ⟨by kernel_rfl,?_⟩) kI ?_
    ·intro w' hS;have q1:=hS.1
     have q2:w'.cell? ⟨eb,0,none⟩=some (.string x):=by rw[<-hx];exact hS.2 0 _ rfl
     clear hS;go_simp
    refine tH 2 (.pointer (some ⟨lb,2,none⟩)) rfl (by kernel_rfl) dJ.out (aG ⟨by kernel_rfl,?_⟩) kI ?_
    ·intro w' hS;have q1:=hS.1
     have q2:w'.cell? ⟨eb,0,none⟩=some (.string x):=by rw[<-hx];exact hS.2 0 _ rfl
     clear hS;go_simp
    refine tH 3 (.map (some mb)) rfl (by kernel_rfl) dJ.out (aG ⟨by kernel_rfl,?_⟩) kI ?_
    ·intro w' hS;have q1:=hS.1
     have q2:w'.cell? ⟨eb,0,none⟩=some (.string x):=by rw[<-hx];exact hS.2 0 _ rfl
     clear hS;go_simp
    refine tH 4 (.pointer (some ⟨eb,0,none⟩)) rfl (by kernel_rfl) dJ.out (aG ⟨by kernel_rfl,?_⟩) kI ?_
    ·intro w' hS;have q1:=hS.1
     have q2:w'.cell? ⟨eb,0,none⟩=some (.string x):=by rw[<-hx];exact hS.2 0 _ rfl
     clear hS;go_simp
    refine tH 5 (.string x) rfl (by kernel_rfl) dJ.out (aG ⟨by kernel_rfl,?_⟩) kI ?_
    ·intro w' hS;have q1:=hS.1
     have q2:w'.cell? ⟨eb,0,none⟩=some (.string x):=by rw[<-hx];exact hS.2 0 _ rfl
     clear hS;go_simp
    refine ng (i:=6) rfl (by kernel_rfl) (by kernel_rfl) (by kernel_rfl) (fun _ _ _ h=>h) (acL (by kernel_rfl) 372 (.tmp 5) rfl eb 0 rfl (bE r) _ (fun w' h=>h.2) Tryz.underlying372 rfl HI2.out) dJ.out ?_;rw[hRC];obtain⟨w9,h9,aeQ,Cr⟩:=HS9.out;have XA:=aP (aK aeQ Cr);clear aeQ Cr HS9 HI2
    refine rH 7 rfl (by kernel_rfl) fun K hK=>?_
    go_simp
    have HR9:Hid (w9.heap[lb]?=some (.cells #[.int .i64 (Lj.count:Nat),v5,.map (some mb)] 270 (0,0))):=(XA.out.2.block lb (bI Aa.out.row) (fun e=>by
     have h1:=Aa.out.row;obtain⟨es,cl,h2⟩:=Aa.out.last.obj;rw[<-ak e] at h2;rw[h1] at h2
     cases h2)).trans Aa.out.row
    refine hK.out _ _ ⟨by rw[bZ HR9.out];rfl,fun i u hu=>(aB (w:=W5) (a:=⟨eb,0+i,none⟩) (XA.out.2.block eb (aC (Aa.out.cells i u hu)) (fun e=>?_))).trans (Aa.out.cells i u hu)⟩ (fun _=>?_)
    ·have h1:=HB.out.lt mb (aL (aG rfl));have h2:=wC.out.1;have h3:=ak e;omega
    clear hK K h9;refine eF (by kernel_rfl) ?_ _
    have c9:w9.cell? ⟨lb,0,none⟩=some (.int .i64 (Lj.count:Nat)):=by rw[bZ HR9.out];rfl
    have f9:w9.frozen? ⟨lb,0,none⟩=false:=iG HR9.out
    have k9:(Lj.count:Int)<=2000000000000:=by have:=HLC.out;omega
    have Ba:Hid (jG (w9.setCell ⟨lb,0,none⟩ (.int .i64 ((Lj.count:Int)+1))) lb mb v5 (n+(j+1)) ((l.take (j+1)).foldl iY L)/\(∀k,v5.ownBlock=some k->vn.ownBlock=some k\/w.heap.size<=k)/\lm (oI lb mb vn) w (w9.setCell ⟨lb,0,none⟩ (.int .i64 ((Lj.count:Int)+1)))):=by
     rw[Ev.out.2];have hm:=Aa.out
     have h5:∀k,k<W5.heap.size->k≠lb->k≠mb->(w9.setCell ⟨lb,0,none⟩ (.int .i64 ((Lj.count:Int)+1))).heap[k]?=W5.heap[k]?:=fun k hk h1 h2=>by
      rw[iP (show k≠lb from h1)];exact XA.out.2.block k hk (fun e=>h2 (ak e))
     have hne:lb≠mb:=fun e=>by
      obtain⟨es,cl,h2⟩:=hm.last.obj;rw[<-e,hm.row] at h2
      cases h2
     have Ru:∀k,v5.ownBlock=some k->k≠lb/\k≠mb:=fun k hk=>⟨fun e=>vJ hm.row hm.names (fun cs f e=>by injection e with _ e _;exact absurd e (by decide)) (by rw[<-e];exact hk),fun e=>by
      obtain⟨es,cl,h2⟩:=hm.last.obj
      exact vJ h2 hm.names (fun cs f e=>by cases e) (by rw[<-e];exact hk)⟩
     refine⟨⟨?_,dL hm.names (fun k hk=>h5 k (bA hm.names k hk).2 (Ru k hk).1 (Ru k hk).2),?_,CJ.out.ok.note r,fun y q hq=>?_⟩,hm.grew,?_⟩
     ·rw[xY HR9.out];rfl
     ·exact XA.out.1.keep (iP (show mb≠lb from fun e=>hne e.symm))
     ·have hq':(if y=r.name then some r else Lj.last y)=some q:=hq
      by_cases g:y=r.name
      ·rw[aD g] at hq';rw[<-ak hq'];exact Ev.out.1
      rw[ax g] at hq';exact CJ.out.recs y q hq'
     have h1:=hm.moves;have h2:=XA.out.2;refine⟨h2.os.trans h1.os,h2.tape.trans h1.tape,h2.output.trans h1.output,?_,fun k hk hF=>(h5 k (ay hk h1.size) (fun e=>hF (aG e)) (fun e=>hF (aL (aG e)))).trans (h1.block k hk hF)⟩;rw[dA];exact aA h1.size h2.size
    clear XA Aa HR9 dJ CJ acQ acT ahg hx
    go_wp2_with fail
    exact⟨⟨j+1,v5,by go_num,by omega,Ba.out⟩,by simp[intOf];omega⟩
  obtain rfl:j=LL:=by omega
  have HFIN:Hid (∃Nv,jG wr lb mb Nv (n+j) (l.foldl iY L)/\(∀k,Nv.ownBlock=some k->vn.ownBlock=some k\/w.heap.size<=k)/\lm (oI lb mb vn) w wr):=by
   have h:=sZ.out;rw[bF (dx HL.out)] at h;exact⟨vj,h,HGM.out⟩
  clear sZ
  go_wp2
  first|go_end0|refine bP (eG rfl _ _ _) rfl ?_
  exact⟨rfl,HFIN.out⟩
