import Derived.Test.YthhbpebihgjpjaaGreatDoorZ07
import Derived.Lib.BufferWrite
import Derived.Laws.CopyOwn
namespace Go.Proofs.YthhbpebihgjpjaaGreatDoor
set_option maxRecDepth 1000000
set_option maxHeartbeats 20000000
set_option linter.all false
section
open Go.RowKit
def sI(l:List UInt8)(i:Nat):Nat:=(l[i]?.getD 0).toNat
theorem NP(l:List UInt8)(i:Nat):sI l i<256:=by
 unfold sI;exact UInt8.toNat_lt _
theorem RX(l:List UInt8)(i:Nat)(h:l.length<=i):sI l i=0:=by
 unfold sI;rw[gU h];rfl
theorem VF(f:Nat->Nat)(n v:Nat):(fT f).setIfInBounds n (.int .u8 v)=fT (fun i=>if i=n then v else f i):=by
 apply Array.ext
 ·simp[fT]
 intro i h1 h2
 have h3:i<64:=by simpa[fT] using h2
 rw[uO (by simpa[fT] using h3)]
 by_cases e:n=i
 ·subst e;simp[fT]
 have e':¬i=n:=fun h=>e h.symm
 simp[fT,e,e']
theorem PZ(f g:Nat->Nat)(h:∀i,i<64->f i=g i):fT f=fT g:=by
 unfold fT
 congr 1
 apply qX;intro i hi;rw[h i (kW.1 hi)]
theorem Hl:fT (fun _=>0)=#[.int .u8 0,.int .u8 0,.int .u8 0,.int .u8 0,.int .u8 0,.int .u8 0,.int .u8 0,.int .u8 0,.int .u8 0,.int .u8 0,.int .u8 0,.int .u8 0,.int .u8 0,.int .u8 0,.int .u8 0,.int .u8 0,.int .u8 0,.int .u8 0,.int .u8 0,.int .u8 0,.int .u8 0,.int .u8 0,.int .u8 0,.int .u8 0,.int .u8 0,.int .u8 0,.int .u8 0,.int .u8 0,.int .u8 0,.int .u8 0,.int .u8 0,.int .u8 0,.int .u8 0,.int .u8 0,.int .u8 0,.int .u8 0,.int .u8 0,.int .u8 0,.int .u8 0,.int .u8 0,.int .u8 0,.int .u8 0,.int .u8 0,.int .u8 0,.int .u8 0,.int .u8 0,.int .u8 0,.int .u8 0,.int .u8 0,.int .u8 0,.int .u8 0,.int .u8 0,.int .u8 0,.int .u8 0,.int .u8 0,.int .u8 0,.int .u8 0,.int .u8 0,.int .u8 0,.int .u8 0,.int .u8 0,.int .u8 0,.int .u8 0,.int .u8 0]:=rfl
theorem WY(l:List UInt8):
  ((fT fun _=>0).toList.take (0+0)++(l.take 64).map (fun x=>Value.int .u8 (x.toNat:Int))++(fT fun _=>0).toList.drop (0+0+((l.take 64).map (fun x=>Value.int .u8 (x.toNat:Int))).length)).toArray=fT (sI l):=by
 have e0:(fT fun _=>0).toList=List.replicate 64 (Value.int .u8 0):=by
  unfold fT;rw[List.toList_toArray];rw[List.eq_replicate_iff];exact⟨eB,fun b hb=>by obtain⟨x,_,rfl⟩:=fP.1 hb;rfl⟩
 apply Array.ext_getElem?;intro i;rw[e0];simp only[kX,DF,xD,jV,ic,dh,List.getElem?_toArray,List.drop_replicate]
 by_cases h:i<64
 ·rw[qL _ i h]
  by_cases h2:i<l.length
  ·rw[bW (by simp;omega)]
   simp[h,sI,h2]
  rw[dz (by simp;omega),RX l i aJ]
  simp[IJ]
  omega
 rw[gU (by simp;omega),fq (by rw[jD];omega)]
variable {P:Program}
theorem LH(w:ak)(dT sT ty elem:TypeId)(g:Nat)(s:ah)(t:TypeId)
  (hu:P.underlying dT=some (.slice elem)) (hs:(P.info? elem).map (·.size)=some 1) (hg:w.heap[g]?=some (.cells (fT fun _=>0) t (0,0))):
  (Builtin.copy_ #[dT,sT] ty #[.slice (some ⟨g,0,none⟩) 64 64,.string s]).run P w=.ok (goInt (Nat.min s.size 64)) (w.setRow g (fT (sI s.data.toList))):=by
 have hsl:s.data.toList.length=s.size:=rfl
 have hst:=acM P g 0 t ((s.data.toList.take 64).map (fun x=>Value.int .u8 (x.toNat:Int))) 0 (fT fun _=>0) w hg (by rw[jD];simp;omega) (by
  intro v hv;obtain⟨x,_,rfl⟩:=fP.1 hv
  rfl)
 rw[WY] at hst
 cases hq:P.info? elem with
 |none=>simp[hq] at hs
 |some i=>
  have htk:List.take (s.size.min 64) (List.map (fun x:UInt8=>Value.int IntKind.u8 (x.toNat:Int)) s.data.toList)=(s.data.toList.take 64).map (fun x=>Value.int .u8 (x.toNat:Int)):=by
   rw[<-List.map_take]
   congr 1
   by_cases h:s.size<=64
   ·rw[show s.size.min 64=s.size from lK h,bK aJ,bK aJ]
   rw[show s.size.min 64=64 from aaW aJ]
  simp[Builtin.copy_,ny hu,Builtin.lenOf,Builtin.firstCells,sizeOf,typeInfo,hq]
  rw[htk,hst]
  simp[Result.andThen]
theorem uN{P:Program}{w:ak}{ops:Array Oper}{rest:List Oper}{o:Oper}{a:Act}{Q:Exit->Act->ak->Prop}(hgd:o.guard=none)(d x:Operand)(dT sT:TypeId)
  (ho:o.op=.call {callee:=.builtin .copy,args:=#[d,x],argTypes:=#[dT,sT]}) (elem:TypeId) (hu:P.underlying dT=some (.slice elem)) (hsz:(P.info? elem).map (·.size)=some 1)
  (g:Nat) (s:ah) (hd:a.eval d=.slice (some ⟨g,0,none⟩) 64 64) (hs:a.eval x=.string s)
  (t:TypeId) (hg:w.heap[g]?=some (.cells (fT fun _=>0) t (0,0)))
  (h:∀w',Hid (w'.heap[g]?=some (.cells (fT (sI s.data.toList)) t (0,0)))->Hid (∀k,k≠g->w'.heap[k]?=w.heap[k]?)->Hid (∀B w0,Below B w0 w->B<=g->Below B w0 w')->wpList P ops Q rest (a.put o.dst (goInt (Nat.min s.size 64))) w'):wpList P ops Q (o::rest) a w:=by
 refine wpList_plain hgd fun K hK=>?_
 have hrun:=LH (P:=P) w dT sT o.type elem g s t hu hsz hg;unfold Oper.wp
 simp[execOp,ho,resolve,invoke,builtin,hd,hs,hrun,Result.andThen]
 exact hK _ _ (h _ (setRow_heap w g _ _ t _ hg) (fun k hk=>setRow_other w g k _ hk) (fun B w0 hb hB=>below_setRow hb hB _))
theorem QE(K:Nat->Nat)(s:Sha.St)(hs:s.Ok)(b:Nat->Nat)(hb:∀i,b i<256)(w:ak)
  (hK:∀i,i<64->w.cell? ⟨10,i,none⟩=some (.int .u32 (K i))) (hKl:∀i,K i<4294967296):
  Calls Tryz.prog 204 #[.agg (oC s.get),.agg (fT b)] w fun e w'=>∃s':Sha.St,Hid (s'=Sha.mixed K s b)/\e=.returned (.agg (oC s'.get))/\Below w.heap.size w w':=
 (ad1 K s hs b hb w hK hKl).mono fun _ _ ⟨h1,h2⟩=>⟨_,rfl,h1,h2⟩
def adW(b:Nat->Nat)(len:Nat)(i:Nat):Nat:=if 56<=i/\i<64 then len*8/2 ^ (8*(63-i)) % 256 else b i
def marked(r:List UInt8)(i:Nat):Nat:=if i=r.length then 128 else sI r i
def Ap(K:Nat->Nat)(s:Sha.St)(r:List UInt8)(len:Nat):Sha.St:=
 if 56<r.length+1 then Sha.mixed K (Sha.mixed K s (marked r)) (adW (fun _=>0) len) else Sha.mixed K s (adW (marked r) len)
theorem Oy(r:List UInt8)(i:Nat):marked r i<256:=by
 unfold marked;split
 ·decide
 exact NP _ _
theorem XY(b:Nat->Nat)(hb:∀i,b i<256)(len i:Nat):adW b len i<256:=by
 unfold adW;split
 ·exact kY _ bS
 exact hb i
structure jf(s:Sha.St)(b:Nat->Nat)(w:ak)(wr:ak):Prop where
 st:wr.heap[w.heap.size]?=some (.cells (oC s.get) 319 (0,0))
 res:wr.heap[w.heap.size+1]?=some (.cells (oC fun _=>0) 319 (0,0))
 blk:wr.heap[w.heap.size+1+1]?=some (.cells (fT b) 320 (0,0))
 below:Below w.heap.size w wr
variable {s:Sha.St}{b:Nat->Nat}{w wr:ak}
theorem jf.set(h:jf s b w wr)(n v:Nat):jf s (fun i=>if i=n then v else b i) w (wr.setCell ⟨w.heap.size+1+1,n,none⟩ (.int .u8 (v:Int))) where
 st:=by rw[au _ _ _ _ (by simp;omega)];exact h.st
 res:=by rw[au _ _ _ _ eB];exact h.res
 blk:=by rw[aR _ _ _ _ _ _ h.blk,VF]
 below:=h.below.setCell (by simp;omega) _
theorem jf.congr{b':Nat->Nat}(h:jf s b w wr)(e:∀i,i<64->b i=b' i):jf s b' w wr:=
 ⟨h.st,h.res,by rw[h.blk,PZ _ _ e],h.below⟩
variable {K:Nat->Nat}
theorem jf.keys(h:jf s b w wr)(hK:∀i,i<64->w.cell? ⟨10,i,none⟩=some (.int .u32 (K i))):
  ∀i,i<64->wr.cell? ⟨10,i,none⟩=some (.int .u32 (K i)):=fun i hi=>by
 rw[h.below.cell (p:=⟨10,i,none⟩) (aG (hK i hi))];exact hK i hi
variable {w2:ak}
theorem jf.past(h:jf s b w wr)(hb:Below wr.heap.size wr w2):jf s b w w2:=
 have lt:w.heap.size+1+1<wr.heap.size:=by
  rcases bX (w.heap.size+1+1) wr.heap.size with g|g
  ·exact g
  have:=h.blk;rw[fq g] at this;cases this
 ⟨by rw[hb.block _ aJ];exact h.st,by rw[hb.block _ aJ];exact h.res,by rw[hb.block _ aJ];exact h.blk,h.below.trans (hb.mono aJ)⟩
theorem jf.state(h:jf s b w wr)(s':Sha.St):jf s' b w (wr.setCells w.heap.size 0 (oC s'.get).toList):=
 ⟨mQ _ _ _ _ _ h.st (by rw[je,je]),by rw[oN _ _ _ _ _ aJ];exact h.res,by rw[oN _ _ _ _ _ aJ];exact h.blk,jo _ _ h.below (ai _)⟩
theorem jf.zeros(h:jf s b w wr):jf s (fun _=>0) w (wr.setCells (w.heap.size+1+1) 0 (fT fun _=>0).toList):=
 ⟨by rw[oN _ _ _ _ _ aJ];exact h.st,by rw[oN _ _ _ _ _ aJ];exact h.res,mQ _ _ _ _ _ h.blk (by rw[jD,jD]),jo _ _ h.below aJ⟩
variable {l:List UInt8}
theorem jf.copied{z:Nat->Nat}{W:ak}(h:jf s z w W)(ha:Hid (w2.heap[w.heap.size+1+1]?=some (.cells (fT (sI l)) 320 (0,0))))(hb:Hid (∀k,k≠w.heap.size+1+1->w2.heap[k]?=W.heap[k]?))
  (hc:Hid (∀B w0,Below B w0 W->B<=w.heap.size+1+1->Below B w0 w2)):jf s (sI l) w w2:=
 ⟨(hb.out _ aJ).trans h.st,(hb.out _ aJ).trans h.res,ha.out,hc.out _ _ h.below aJ⟩
theorem jf.mark(h:jf s (sI l) w w2)(n:Nat)(hn:l.length=n):jf s (marked l) w (w2.setCell ⟨w.heap.size+1+1,n,none⟩ (.int .u8 128)):=by
 subst hn;exact(h.set l.length 128).congr (fun i _=>rfl)
def Bf(b:Nat->Nat)(len m i:Nat):Nat:=if 64-m<=i/\i<64 then len*8/2 ^ (8*(63-i)) % 256 else b i
theorem KO(b:Nat->Nat)(len i:Nat):Bf b len 0 i=b i:=by unfold Bf;rw[aA aJ]
theorem WB(b:Nat->Nat)(len m:Nat)(hm:m<8)(i:Nat):(if i=63-m then len*8/2 ^ (8*m) % 256 else Bf b len m i)=Bf b len (m+1) i:=by
 by_cases e:i=63-m
 ·subst e;rw[aH rfl];unfold Bf;rw[aH aJ,show 63-(63-m)=m by omega]
 rw[aA e];unfold Bf
 by_cases c:64-m<=i/\i<64
 ·rw[aH c,aH aJ]
 rw[aA c,aA aJ]
theorem jf.len{len m:Nat}(h:jf s (Bf b len m) w wr)(hm:m<8)(o:Nat)(ho:o=63-m)(v:Int)(hv:v=((len*8/2 ^ (8*m) % 256:Nat):Int)):
  jf s (Bf b len (m+1)) w (wr.setCell ⟨w.heap.size+1+1,o,none⟩ (.int .u8 v)):=by
 subst ho hv;exact(h.set (63-m) (len*8/2 ^ (8*m) % 256)).congr (fun i _=>WB b len m hm i)
theorem WL(K:Nat->Nat)(s:Sha.St)(hs:s.Ok)(r:ah)(hr:r.size<64)(len:Nat)(hlen:len<2305843009213693952)(w:ak)
  (hK:∀i,i<64->w.cell? ⟨10,i,none⟩=some (.int .u32 (K i))) (hKl:∀i,K i<4294967296):
  Calls Tryz.prog 206 #[.agg (oC s.get),.string r,.int .u64 len] w fun e w'=>∃s':Sha.St,Hid (s'=Ap K s r.data.toList len)/\e=.returned (.agg (oC s'.get))/\Below w.heap.size w w':=by
 have hz1:=je s.get;have hsl:r.data.toList.length=r.size:=rfl
 have HZ:Hid (jf s (fun _=>0) w (((w.alloc (.cells (oC s.get) 319)).alloc (.cells (oC fun _=>0) 319)).alloc (.cells (fT fun _=>0) 320))):=
  ⟨by rw[bC _ _ _ (by simp;omega),bC _ _ _ eB];exact bq _ _ _ rfl,by rw[bC _ _ _ eB];exact bq _ _ _ eB,bq _ _ _ eB,(((ay _ _).alloc (ai _) _).alloc eB _).alloc (by simp;omega) _⟩
 have RS:=aV hs;have RK:=aV hK;have RL:=aV hKl;clear hs hK hKl
 have i131:(Tryz.prog.info? 319).map (·.size)=some 8:=dD
 have SY:(Tryz.prog.info? 320).map (·.size)=some 64:=dD
 have i5:(Tryz.prog.info? 5).map (·.size)=some 1:=dD
 have b0:(0:Int)<=(r.size:Int):=aJ
 have b1:(r.size:Int)<64:=aJ
 go_enter Tryz.func206,Tryz.ntmps206
 by_cases hlong:56<r.size+1
 ·have l1:(56:Int)<(r.size:Int)+1:=aJ
  go_wp2_with (first
   | (refine uN rfl (.tmp 10) (.tmp 11) 219 9 rfl 5 Tryz.underlying219 i5 (w.heap.size+1+1) r rfl rfl 320 (by exact HZ.out.blk) ?_;intro w2 h2a h2b h2c;have hck:∃v,w2.cell? ⟨w.heap.size+1+1,r.size,none⟩=some v:=⟨_,(aj _ _ _ _ _ _ h2a.out).trans (qL _ _ hr)⟩;obtain⟨vk,hck⟩:=hck;have hfk:w2.frozen? ⟨w.heap.size+1+1,r.size,none⟩=false:=aD _ _ _ _ _ h2a.out;have HM:Hid (jf s (marked r.data.toList) w (w2.setCell ⟨w.heap.size+1+1,r.size,none⟩ (.int .u8 128))):=(HZ.out.copied h2a h2b h2c).mark r.size rfl;clear h2a h2b h2c)
   | (refine gT rfl 319 _ rfl w.heap.size rfl 319 (oC s.get) (0,0) _ (by exact HM.out.st) Tryz.underlying319 rfl (by rw[hz1];exact i131) ?_)
   | (refine gT rfl 320 _ rfl (w.heap.size+1+1) rfl 320 (fT (marked r.data.toList)) (0,0) _ (by exact HM.out.blk) Tryz.underlying320 rfl (by rw[jD];exact SY) ?_))
  refine(QE K s RS.out _ (Oy _) _ (HM.out.keys RK.out) RL.out).mono ?_;rintro e w3 ⟨s1,FV,rfl,hb3⟩;have HM3:=aV (HM.out.past hb3);clear hb3 HM hck hfk vk;clear w2;have hz3:=je s1.get;have ru:=aV ((HM3.out.state s1).zeros)
  go_wp2_with (refine cK rfl 319 _ _ rfl w.heap.size 0 (oC s1.get) rfl rfl (bR HM3.out.st 0 _ (by rw[hz3,hz1];omega)) (by rw[hz3];exact i131) (CF _) ?_;refine dO ?_)
  unfold Hid
  go_wp2_with (refine cK rfl 320 _ _ rfl (w.heap.size+1+1) 0 (fT fun _=>0) ?hx ?hy ?ht ?hi ?h1 ?_)
  case hx=>rfl
  case hy=>rw[Hl];rfl
  case ht=>exact bR (HM3.out.state s1).blk 0 _ (by rw[jD,jD];omega)
  case hi=>rw[jD];exact SY
  case h1=>exact VE _
  go_loopw [26] (fun i wr=>∃m:Nat,m<=8/\i=.int .i64 m/\jf s1 (Bf (fun _=>0) len m) w wr) (fun i _=>8-(intOf i).toNat)
  case atStart=>exact⟨0,aJ,rfl,ru.out.congr (fun i _=>(KO (fun _=>0) len i).symm)⟩
  case round=>
   clear ru;obtain⟨m,hm,rfl,hmem⟩:=hrel;have HN:=aV hmem;clear hmem
   by_cases hlt:m<8
   ·have hck:∃v,wr.cell? ⟨w.heap.size+1+1,63-m,none⟩=some v:=⟨_,(aj _ _ _ _ _ _ HN.out.blk).trans (qL _ _ aJ)⟩;obtain⟨vk,hck⟩:=hck;have hfk:wr.frozen? ⟨w.heap.size+1+1,63-m,none⟩=false:=aD _ _ _ _ _ HN.out.blk
    have i0:(0:Int)<=(m:Int):=aJ
    have i1:(m:Int)<8:=aJ
    have j0:(0:Int)<=63-(m:Int):=aJ
    have j1:63-(m:Int)<64:=aJ
    have j2:(0:Int)<=8*(m:Int):=aJ
    go_wp2
    go_roundw
    case rel=>
     have hv:(len:Int)*8/2 ^ (8*m) % 256=((len*8/2 ^ (8*m) % 256:Nat):Int):=eB
     first
      |exact⟨m+1,aJ,oW,HN.out.len hlt _ rfl _ hv⟩
      | ((repeat apply Exists.intro);exact⟨⟨m+1,aJ,oW,HN.out.len hlt _ rfl _ hv⟩,rfl⟩)
    case measure=>simp[intOf];omega
   obtain rfl:m=8:=aJ
   have hzs:=je s1.get;obtain⟨BL,tF⟩:∃BL,Hid (BL=Bf (fun _=>0) len 8):=⟨_,rfl⟩
   have HN':Hid (jf s1 BL w wr):=by rw[tF.out];exact HN
   clear HN
   go_wp2_with (first
    | (refine gT rfl 319 _ rfl w.heap.size rfl 319 (oC s1.get) (0,0) _ (by exact HN'.out.st) Tryz.underlying319 rfl (by rw[hzs];exact i131) ?_)
    | (refine gT rfl 320 _ rfl (w.heap.size+1+1) rfl 320 (fT BL) (0,0) _ (by exact HN'.out.blk) Tryz.underlying320 rfl (by rw[jD];exact SY) ?_))
   refine(QE K s1 (by rw[FV.out];exact Sha.KR _ _ _) _ (fun i=>by rw[tF.out];exact XY (fun _=>0) (fun _=>bS) len i) _ (HN'.out.keys RK.out) RL.out).mono ?_;rintro e w5 ⟨s2,HS2,rfl,hb5⟩;have GX:=aV (HN'.out.past hb5);clear HN' hb5;have hz5:=je s2.get;have hy2:=je (fun _=>0)
   go_wp2_with (refine cK rfl 319 _ _ rfl (w.heap.size+1) 0 (oC s2.get) rfl rfl (bR GX.out.res 0 _ (by rw[hz5,hy2];omega)) (by rw[hz5];exact i131) (CF _) ?_)
   refine bV (pO Tryz.results206 _ _ (w.heap.size+1) 319 (oC s2.get) (0,0) _ rfl (mQ _ _ _ _ _ GX.out.res (by rw[hz5,hy2])) Tryz.underlying319 rfl (by rw[hz5];exact i131)) rfl
    ⟨s2,?_,rfl,jo _ _ GX.out.below aJ⟩
   show s2=Ap K s r.data.toList len;unfold Ap;rw[aH (by rw[hsl];exact hlong),<-FV.out];rw[HS2.out,tF.out];rfl
 have l1:¬(56:Int)<(r.size:Int)+1:=aJ
 go_wp2_with (refine uN rfl (.tmp 10) (.tmp 11) 219 9 rfl 5 Tryz.underlying219 i5 (w.heap.size+1+1) r rfl rfl 320 (by exact HZ.out.blk) ?_;intro w2 h2a h2b h2c;have hck:∃v,w2.cell? ⟨w.heap.size+1+1,r.size,none⟩=some v:=⟨_,(aj _ _ _ _ _ _ h2a.out).trans (qL _ _ hr)⟩;obtain⟨vk,hck⟩:=hck;have hfk:w2.frozen? ⟨w.heap.size+1+1,r.size,none⟩=false:=aD _ _ _ _ _ h2a.out;have HM:Hid (jf s (marked r.data.toList) w (w2.setCell ⟨w.heap.size+1+1,r.size,none⟩ (.int .u8 128))):=(HZ.out.copied h2a h2b h2c).mark r.size rfl;clear h2a h2b h2c)
 clear hck hfk vk
 go_loopw [26] (fun i wr=>∃m:Nat,m<=8/\i=.int .i64 m/\jf s (Bf (marked r.data.toList) len m) w wr) (fun i _=>8-(intOf i).toNat)
 case atStart=>exact⟨0,aJ,rfl,HM.out.congr (fun i _=>(KO (marked r.data.toList) len i).symm)⟩
 case round=>
  clear HM;obtain⟨m,hm,rfl,hmem⟩:=hrel;have HN:=aV hmem;clear hmem
  by_cases hlt:m<8
  ·have hck:∃v,wr.cell? ⟨w.heap.size+1+1,63-m,none⟩=some v:=⟨_,(aj _ _ _ _ _ _ HN.out.blk).trans (qL _ _ aJ)⟩;obtain⟨vk,hck⟩:=hck;have hfk:wr.frozen? ⟨w.heap.size+1+1,63-m,none⟩=false:=aD _ _ _ _ _ HN.out.blk
   have i0:(0:Int)<=(m:Int):=aJ
   have i1:(m:Int)<8:=aJ
   have j0:(0:Int)<=63-(m:Int):=aJ
   have j1:63-(m:Int)<64:=aJ
   have j2:(0:Int)<=8*(m:Int):=aJ
   go_wp2
   go_roundw
   case rel=>
    have hv:(len:Int)*8/2 ^ (8*m) % 256=((len*8/2 ^ (8*m) % 256:Nat):Int):=eB
    first
     |exact⟨m+1,aJ,oW,HN.out.len hlt _ rfl _ hv⟩
     | ((repeat apply Exists.intro);exact⟨⟨m+1,aJ,oW,HN.out.len hlt _ rfl _ hv⟩,rfl⟩)
   case measure=>simp[intOf];omega
  obtain rfl:m=8:=aJ
  have hzs:=je s.get;obtain⟨BL,tF⟩:∃BL,Hid (BL=Bf (marked r.data.toList) len 8):=⟨_,rfl⟩
  have HN':Hid (jf s BL w wr):=by rw[tF.out];exact HN
  clear HN
  go_wp2_with (first
   | (refine gT rfl 319 _ rfl w.heap.size rfl 319 (oC s.get) (0,0) _ (by exact HN'.out.st) Tryz.underlying319 rfl (by rw[hzs];exact i131) ?_)
   | (refine gT rfl 320 _ rfl (w.heap.size+1+1) rfl 320 (fT BL) (0,0) _ (by exact HN'.out.blk) Tryz.underlying320 rfl (by rw[jD];exact SY) ?_))
  refine(QE K s RS.out _ (fun i=>by rw[tF.out];exact XY (marked r.data.toList) (Oy _) len i) _ (HN'.out.keys RK.out) RL.out).mono ?_;rintro e w5 ⟨s2,HS2,rfl,hb5⟩;have GX:=aV (HN'.out.past hb5);clear HN' hb5;have hz5:=je s2.get;have hy2:=je (fun _=>0)
  go_wp2_with (refine cK rfl 319 _ _ rfl (w.heap.size+1) 0 (oC s2.get) rfl rfl (bR GX.out.res 0 _ (by rw[hz5,hy2];omega)) (by rw[hz5];exact i131) (CF _) ?_)
  refine bV (pO Tryz.results206 _ _ (w.heap.size+1) 319 (oC s2.get) (0,0) _ rfl (mQ _ _ _ _ _ GX.out.res (by rw[hz5,hy2])) Tryz.underlying319 rfl (by rw[hz5];exact i131)) rfl
   ⟨s2,?_,rfl,jo _ _ GX.out.below aJ⟩
  show s2=Ap K s r.data.toList len;unfold Ap;rw[aA (by rw[hsl];exact hlong)];rw[HS2.out,tF.out];rfl
def Sha.H0:Sha.St:=⟨1779033703,3144134277,1013904242,2773480762,1359893119,2600822924,528734635,1541459225⟩
theorem Sha.ag4:Sha.H0.Ok:=by constructor<;>decide
theorem ags:oC Sha.H0.get=#[.int .u32 1779033703,.int .u32 3144134277,.int .u32 1013904242,.int .u32 2773480762,.int .u32 1359893119,.int .u32 2600822924,.int .u32 528734635,.int .u32 1541459225]:=rfl
def Gb(K:Nat->Nat)(l:List UInt8):Nat->Sha.St
 |0=>Sha.H0
 |n+1=>Sha.mixed K (Gb K l n) (sI (l.drop (64*n)))
theorem YI(K:Nat->Nat)(l:List UInt8):∀n,(Gb K l n).Ok
 |0=>Sha.ag4
 |_+1=>Sha.KR _ _ _
def EI(K:Nat->Nat)(l:List UInt8):Sha.St:=Ap K (Gb K l (l.length/64)) (l.drop (64*(l.length/64))) l.length
structure wV(s:Sha.St)(w wr:ak):Prop where
 res:wr.heap[w.heap.size]?=some (.cells (kK fun _=>0) 217 (0,0))
 st:wr.heap[w.heap.size+1]?=some (.cells (oC s.get) 319 (0,0))
 below:Below w.heap.size w wr
theorem wV.lt(h:wV s w wr):w.heap.size+1<wr.heap.size:=by
 rcases bX (w.heap.size+1) wr.heap.size with g|g
 ·exact g
 have:=h.st;rw[fq g] at this;cases this
theorem wV.past(h:wV s w wr)(hb:Below wr.heap.size wr w2):wV s w w2:=
 have:=h.lt
 ⟨by rw[hb.block _ aJ];exact h.res,by rw[hb.block _ aJ];exact h.st,h.below.trans (hb.mono aJ)⟩
theorem wV.state(h:wV s w wr)(s':Sha.St):wV s' w (wr.setCells (w.heap.size+1) 0 (oC s'.get).toList):=
 ⟨by rw[oN _ _ _ _ _ aJ];exact h.res,mQ _ _ _ _ _ h.st (by rw[je,je]),jo _ _ h.below aJ⟩
theorem wV.keys(h:wV s w wr)(hK:∀i,i<64->w.cell? ⟨10,i,none⟩=some (.int .u32 (K i))):
  ∀i,i<64->wr.cell? ⟨10,i,none⟩=some (.int .u32 (K i)):=fun i hi=>by
 rw[h.below.cell (p:=⟨10,i,none⟩) (aG (hK i hi))];exact hK i hi
theorem wV.copied{o:Obj}(h:wV s w wr)(hb:Hid (∀k,k≠wr.heap.size->w2.heap[k]?=(wr.alloc o).heap[k]?))(hc:Hid (∀B w0,Below B w0 (wr.alloc o)->B<=wr.heap.size->Below B w0 w2)):wV s w w2:=
 have:=h.lt
 ⟨by rw[hb.out _ aJ,bC _ _ _ aJ];exact h.res,by rw[hb.out _ aJ,bC _ _ _ aJ];exact h.st,hc.out _ _ (h.below.alloc aJ _) aJ⟩
def Ri:Value->Nat|.string s=>s.size|_=>0
theorem YT(l:List UInt8)(n:Nat):(l.drop (64*n)).drop 64=l.drop (64*(n+1)):=by rw[List.drop_drop];congr 1
theorem WT(K:Nat->Nat)(t:ah)(ht:t.size<140737488355328)(w:ak)
  (hK:∀i,i<64->w.cell? ⟨10,i,none⟩=some (.int .u32 (K i))) (hKl:∀i,K i<4294967296):
  Calls Tryz.prog 124 #[.string t] w fun e w'=>∃s:Sha.St,Hid (s=EI K t.data.toList)/\e=.returned (.agg (kK s.byte))/\Below w.heap.size w w':=by
 have hsl:t.data.toList.length=t.size:=rfl;have RK:=aV hK;have RL:=aV hKl;clear hK hKl
 have i131:(Tryz.prog.info? 319).map (·.size)=some 8:=dD
 have SY:(Tryz.prog.info? 320).map (·.size)=some 64:=dD
 have i5:(Tryz.prog.info? 5).map (·.size)=some 1:=dD
 have HZ:Hid (wV Sha.H0 w (((w.alloc (.cells (kK fun _=>0) 217)).alloc (.cells (oC fun _=>0) 319)).setCells (w.heap.size+1) 0 (oC Sha.H0.get).toList)):=
  ⟨by rw[oN _ _ _ _ _ aJ,bC _ _ _ eB];exact bq _ _ _ rfl,mQ _ _ _ _ _ (bq _ _ _ eB) (by rw[je,je]),jo _ _ (((ay _ _).alloc (ai _) _).alloc eB _) aJ⟩
 go_enter Tryz.func124,Tryz.ntmps124
 go_wp2_with (refine cK rfl 319 _ _ rfl (w.heap.size+1) 0 (oC Sha.H0.get) rfl ?hy (bR (bq _ _ _ eB) 0 _ (by rw[je];decide)) (by rw[je];exact i131) (CF _) ?_)
 case hy=>rw[ags]
 rw[<-GA,<-UA]
 go_loopw [4] (fun v wr=>∃(n:Nat) (ρ:ah) (st:Sha.St),64*n<=t.size/\v=.string ρ/\Hid (ρ.data.toList=t.data.toList.drop (64*n))/\Hid (st=Gb K t.data.toList n)/\wV st w wr) (fun v _=>Ri v)
 case atStart=>exact⟨0,t,Sha.H0,aJ,rfl,rfl,rfl,HZ.out⟩
 case round=>
  clear HZ;obtain⟨n,ρ,st,hn,rfl,HR,HS,hmem⟩:=hrel;have HM:=aV hmem;clear hmem
  have hρ:ρ.size=t.size-64*n:=by
   have:=ig List.length HR.out;rw[vS,hsl] at this;exact this
  have HP:=aV hρ;have hlt2:=HM.out.lt
  have Zl:Hid (st.Ok):=by show st.Ok;rw[HS.out];exact YI _ _ _
  have hzs:=je st.get
  by_cases hlt:64<=ρ.size
  ·clear hρ
   have g1:(64:Int)<=(ρ.size:Int):=aJ
   go_wp2_with (first
    | (refine uN rfl (.tmp 11) (.tmp 12) 219 9 rfl 5 Tryz.underlying219 i5 wr.heap.size ρ rfl rfl 320 (by rw[Hl];exact bq _ _ _ rfl) ?_;intro w2 h2a h2b h2c;have HM2:Hid (wV st w w2):=HM.out.copied h2b h2c)
    | (refine gT rfl 319 _ rfl (w.heap.size+1) rfl 319 (oC st.get) (0,0) _ (by exact HM2.out.st) Tryz.underlying319 rfl (by rw[hzs];exact i131) ?_)
    | (refine gT rfl 320 _ rfl wr.heap.size rfl 320 (fT (sI ρ.data.toList)) (0,0) _ (by exact h2a.out) Tryz.underlying320 rfl (by rw[jD];exact SY) ?_))
   refine(QE K st Zl.out _ (NP _) _ (HM2.out.keys RK.out) RL.out).mono ?_;rintro e w3 ⟨s1,FV,rfl,hb3⟩;have HM3:=aV (HM2.out.past hb3);clear HM2 hb3 h2a h2b h2c;have hz3:=je s1.get
   go_wp2_with (refine cK rfl 319 _ _ rfl (w.heap.size+1) 0 (oC s1.get) rfl rfl (bR HM3.out.st 0 _ (by rw[hz3,hzs];omega)) (by rw[hz3];exact i131) (CF _) ?_;refine dO ?_)
   have ru:=aV (HM3.out.state s1)
   have HQ:Hid (s1=Gb K t.data.toList (n+1)):=by
    show s1=Sha.mixed K (Gb K t.data.toList n) (sI (t.data.toList.drop (64*n)));rw[FV.out,HS.out,HR.out]
   clear HM HM3 FV HS;generalize w3.setCells (w.heap.size+1) 0 (oC s1.get).toList=w4 at*;unfold Hid
   go_wp2
   have hx1:(ρ.extract 64 ρ.size).data.toList=t.data.toList.drop (64*(n+1)):=by
    rw[<-YT,<-HR.out];rw[Lib.extract_data,bK (by rw[vS];exact ai _)]
   have hx2:(ρ.extract 64 ρ.size).size=ρ.size-64:=eB
   have hP:=HP.out
   go_roundw
   case rel=>exact⟨n+1,_,s1,aJ,rfl,hx1,HQ,ru.out⟩
   case measure=>simp[Ri];omega
  have aiD:n=t.size/64:=aJ
  have HN:=aV aiD;clear hρ aiD
  have g1:¬(64:Int)<=(ρ.size:Int):=aJ
  have hfit:IntKind.u64.wrap (t.size:Int)=(t.size:Int):=by rw[IntKind.wrap_u64];omega
  go_wp2_with (refine gT rfl 319 _ rfl (w.heap.size+1) rfl 319 (oC st.get) (0,0) _ (by exact HM.out.st) Tryz.underlying319 rfl (by rw[hzs];exact i131) ?_)
  refine(WL K st Zl.out ρ aJ t.size aJ _ (HM.out.keys RK.out) RL.out).mono ?_;rintro e w3 ⟨s1,FV,rfl,hb3⟩;have HM3:=aV (HM.out.past hb3);clear HM hb3
  have hok1:Hid (s1.Ok):=by
   show s1.Ok;rw[FV.out];unfold Ap
   split<;>exact Sha.KR _ _ _
  go_wp2_with fail
  refine(LX s1 hok1.out _).mono ?_;rintro e w4 ⟨rfl,hb4⟩;have ru:=aV (HM3.out.past hb4);clear HM3 hb4;have hy1:=sZ s1.byte;have hy2:=sZ (fun _=>0)
  have i67:(Tryz.prog.info? 217).map (·.size)=some 32:=dD
  go_wp2_with (refine cK rfl 217 _ _ rfl w.heap.size 0 (kK s1.byte) rfl rfl (bR ru.out.res 0 _ (by rw[hy1,hy2];omega)) (by rw[hy1];exact i67) (Lb _) ?_)
  refine bV (pO Tryz.results124 _ _ w.heap.size 217 (kK s1.byte) (0,0) _ rfl (mQ _ _ _ _ _ ru.out.res (by rw[hy1,hy2])) Tryz.underlying217 rfl (by rw[hy1];exact i67)) rfl
   ⟨s1,?_,rfl,jo _ _ ru.out.below (ai _)⟩
  show s1=EI K t.data.toList;unfold EI;rw[FV.out,HR.out,HS.out,HN.out,hsl]
def AB(f:Nat->Nat):ah:=⟨((List.range 32).map fun j=>UInt8.ofNat (f j)).toArray⟩
theorem Ui(ns:List Int):∀r:ah,(ns.foldl (fun r n=>r.push (UInt8.ofNat n.toNat)) r)=⟨r.data++(ns.map fun n=>UInt8.ofNat n.toNat).toArray⟩:=by
 induction ns with
 |nil=>intro r;simp
 |cons n ns ih=>
  intro r;rw[jA,ih]
  simp[ByteArray.push]
theorem LJ(w:ak)(src dst e:TypeId)(g:Nat)(t:TypeId)(f:Nat->Nat)
  (hs:P.underlying src=some (.slice e)) (he:P.underlying e=some (.int .u8)) (hd:P.underlying dst=some .string) (hg:w.heap[g]?=some (.cells (kK f) t (0,0))):
  (convert src dst (.slice (some ⟨g,0,none⟩) 32 32)).run P w=.ok (.string (AB f)) w:=by
 rw[run_convert_bytes_string w src dst e _ _ _ hs he hd]
 have hl:(loadCells ⟨g,0,none⟩ (kK f).toList.length).run P w=.ok (kK f).toList.toArray w:=
  run_loadCells_list (P:=P) w ⟨g,0,none⟩ (kK f).toList (fun j v hv=>by
   have hadd:(⟨g,0,none⟩:Addr).add j=⟨g,j,none⟩:=by unfold Addr.add;split<;>simp_all
   rw[hadd,aj w g j _ t _ hg]
   simpa using hv)
 rw[aX,sZ,dw] at hl
 have e1:kK f=(((List.range 32).map fun i=>((f i:Nat):Int)).map (Value.int .u8)).toArray:=by simp[kK]
 rw[e1] at hl
 have e2:(((List.range 32).map fun i=>((f i:Nat):Int)).foldl (fun r n=>r.push (UInt8.ofNat n.toNat)) ByteArray.empty)=AB f:=by
  rw[Ui,List.map_map];show(⟨#[]++((List.range 32).map ((fun n:Int=>UInt8.ofNat n.toNat)∘fun i=>((f i:Nat):Int))).toArray⟩:ah)=_;rw[Array.empty_append];rfl
 rw[run_bytesToString w _ _ _ _ hl,e2]
theorem aek(K:Nat->Nat)(t:ah)(ht:t.size<140737488355328)(w:ak)
  (hK:∀i,i<64->w.cell? ⟨10,i,none⟩=some (.int .u32 (K i))) (hKl:∀i,K i<4294967296):
  Calls Tryz.prog 77 #[.string t] w fun e w'=>∃s:Sha.St,Hid (s=EI K t.data.toList)/\e=.returned (.string (AB s.byte))/\Below w.heap.size w w':=by
 have i67:(Tryz.prog.info? 217).map (·.size)=some 32:=dD
 go_enter Tryz.func77,Tryz.ntmps77
 go_wp2_with fail
 refine(WT K t ht _ hK hKl).mono ?_;rintro e w1 ⟨s,HS,rfl,hb1⟩;have hy1:=sZ s.byte
 go_wp2_with (refine cK rfl 217 _ _ rfl w1.heap.size 0 (kK s.byte) rfl rfl (bR (bq _ _ _ rfl) 0 _ (by rw[hy1];decide)) (by rw[hy1];exact i67) (Lb _) ?_;refine dO ?_)
 rw[<-GA];have hrow:((w1.alloc (.cells (kK fun _=>0) 217)).setCells w1.heap.size 0 (kK s.byte).toList).heap[w1.heap.size]?=some (.cells (kK s.byte) 217 (0,0)):=mQ _ _ _ _ _ (bq _ _ _ rfl) (by rw[hy1,sZ]);have HB:Hid (Below w.heap.size w ((w1.alloc (.cells (kK fun _=>0) 217)).setCells w1.heap.size 0 (kK s.byte).toList)):=jo _ _ (hb1.alloc hb1.size _) hb1.size;have HR:=aV hrow;clear hrow hb1;generalize (w1.alloc (.cells (kK fun _=>0) 217)).setCells w1.heap.size 0 (kK s.byte).toList=w2 at*;have anl:=LJ (P:=Tryz.prog) w2 219 9 5 w1.heap.size 217 s.byte Tryz.underlying219 Tryz.underlying5 Tryz.underlying9 HR.out;unfold Hid
 go_wp2
 go_ret;exact⟨s,HS,rfl,HB.out⟩
def xk(x:Nat):ah:=⟨#[UInt8.ofNat (x/16777216 % 256),UInt8.ofNat (x/65536 % 256),UInt8.ofNat (x/256 % 256),UInt8.ofNat (x % 256)]⟩
theorem Ja(w:ak)(src dst e t:TypeId)(b0 b1 b2 b3:Nat)
  (hs:P.underlying src=some (.slice e)) (he:P.underlying e=some (.int .u8)) (hd:P.underlying dst=some .string):
  (convert src dst (.slice (some ⟨w.heap.size,0,none⟩) 4 4)).run P (w.alloc (.cells #[.int .u8 (b0:Int),.int .u8 (b1:Int),.int .u8 (b2:Int),.int .u8 (b3:Int)] t))=.ok (.string ⟨#[UInt8.ofNat b0,UInt8.ofNat b1,UInt8.ofNat b2,UInt8.ofNat b3]⟩) (w.alloc (.cells #[.int .u8 (b0:Int),.int .u8 (b1:Int),.int .u8 (b2:Int),.int .u8 (b3:Int)] t)):=by
 rw[run_convert_bytes_string _ src dst e _ _ _ hs he hd]
 have hl:(loadCells ⟨w.heap.size,0,none⟩ ([.int .u8 (b0:Int),.int .u8 (b1:Int),.int .u8 (b2:Int),.int .u8 (b3:Int)]:List Value).length).run P (w.alloc (.cells #[.int .u8 (b0:Int),.int .u8 (b1:Int),.int .u8 (b2:Int),.int .u8 (b3:Int)] t))=.ok ([.int .u8 (b0:Int),.int .u8 (b1:Int),.int .u8 (b2:Int),.int .u8 (b3:Int)]:List Value).toArray _:=
  run_loadCells_list (P:=P) _ ⟨w.heap.size,0,none⟩ _ (fun j v hv=>by
   have hadd:(⟨w.heap.size,0,none⟩:Addr).add j=⟨w.heap.size,j,none⟩:=by unfold Addr.add;split<;>simp_all
   rw[hadd,aj _ w.heap.size j #[.int .u8 (b0:Int),.int .u8 (b1:Int),.int .u8 (b2:Int),.int .u8 (b3:Int)] t (0,0) (bq _ _ _ rfl)]
   simpa using hv)
 have hl4:(loadCells ⟨w.heap.size,0,none⟩ 4).run P (w.alloc (.cells #[.int .u8 (b0:Int),.int .u8 (b1:Int),.int .u8 (b2:Int),.int .u8 (b3:Int)] t))=.ok ([(b0:Int),(b1:Int),(b2:Int),(b3:Int)].map (Value.int .u8)).toArray (w.alloc (.cells #[.int .u8 (b0:Int),.int .u8 (b1:Int),.int .u8 (b2:Int),.int .u8 (b3:Int)] t)):=hl;rw[run_bytesToString _ _ 4 4 [(b0:Int),(b1:Int),(b2:Int),(b3:Int)] hl4,Ui];rfl
theorem zq(x:Nat)(hx:x<4294967296)(w:ak):
  Calls Tryz.prog 250 #[.int .u32 x] w fun e w'=>e=.returned (.string (xk x))/\Below w.heap.size w w':=by
 have x1:(x:Int)<4294967296:=aJ
 have hc:=Ja (P:=Tryz.prog) w 219 9 5 5 (x/16777216) (x/65536 % 256) (x/256 % 256) (x % 256) Tryz.underlying219 Tryz.underlying5 Tryz.underlying9
 have HE:Hid (xk x=⟨#[UInt8.ofNat (x/16777216),UInt8.ofNat (x/65536 % 256),UInt8.ofNat (x/256 % 256),UInt8.ofNat (x % 256)]⟩):=by
  show _=_;rw[xk,show x/16777216 % 256=x/16777216 by omega]
 rw[show((x/16777216:Nat):Int)=(x:Int)/16777216 by omega,show((x/65536 % 256:Nat):Int)=(x:Int)/65536 % 256 by omega,show((x/256 % 256:Nat):Int)=(x:Int)/256 % 256 by omega,show((x % 256:Nat):Int)=(x:Int) % 256 by omega] at hc
 go_enter Tryz.func250,Tryz.ntmps250
 go_wp2
 go_ret;exact⟨by rw[HE.out];rfl,(ay _ _).alloc (ai _) _⟩
def keys:List Nat:=[1116352408,1899447441,3049323471,3921009573,961987163,1508970993,2453635748,2870763221,3624381080,310598401,607225278,1426881987,1925078388,2162078206,2614888103,3248222580,3835390401,4022224774,264347078,604807628,770255983,1249150122,1555081692,1996064986,2554220882,2821834349,2952996808,3210313671,3336571891,3584528711,113926993,338241895,666307205,773529912,1294757372,1396182291,1695183700,1986661051,2177026350,2456956037,2730485921,2820302411,3259730800,3345764771,3516065817,3600352804,4094571909,275423344,430227734,506948616,659060556,883997877,958139571,1322822218,1537002063,1747873779,1955562222,2024104815,2227730452,2361852424,2428436474,2756734187,3204031479,3329325298]
def Ib(i:Nat):Nat:=keys.getD i 0
theorem KJ(i:Nat):Ib i<4294967296:=by
 unfold Ib
 by_cases h:i<64
 ·have:∀x∈keys,x<4294967296:=bS
  rw[dx,fe (by exact h)];exact this _ (List.getElem_mem _)
 rw[dx,gU (by show 64<=i;omega)];decide
def jC(w:ak):Prop:=∀i,i<64->w.cell? ⟨10,i,none⟩=some (.int .u32 (Ib i))
theorem jC.later{w':ak}(h:jC w)(hb:∀k,k<w.heap.size->w'.heap[k]?=w.heap[k]?):jC w':=fun i hi=>by
 rw[aF (w:=w) (a:=⟨10,i,none⟩) (hb _ (aG (h i hi)))];exact h i hi
def gW(t:ah):ah:=AB (EI Ib t.data.toList).byte
theorem kS(t:ah):(gW t).size=32:=by
 show(((List.range 32).map _).toArray).size=32
 simp
end
end Go.Proofs.YthhbpebihgjpjaaGreatDoor
