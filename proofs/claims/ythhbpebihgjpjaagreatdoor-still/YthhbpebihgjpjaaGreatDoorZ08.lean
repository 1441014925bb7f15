import Derived.Test.YthhbpebihgjpjaaGreatDoorZ07
import Derived.Lib.BufferWrite
import Derived.Laws.CopyOwn
namespace Go.Proofs.YthhbpebihgjpjaaGreatDoor
set_option maxRecDepth 1000000
set_option maxHeartbeats 20000000
set_option linter.all false
section
open Go.RowKit
def sD(l:List UInt8)(i:Nat):Nat:=(l[i]?.getD 0).toNat
theorem NK(l:List UInt8)(i:Nat):sD l i<256:=by
 unfold sD;exact UInt8.toNat_lt _
theorem RQ(l:List UInt8)(i:Nat)(h:l.length<=i):sD l i=0:=by
 unfold sD;rw[gK h];rfl
theorem VE(f:Nat->Nat)(n v:Nat):(fJ f).setIfInBounds n (.int .u8 v)=fJ (fun i=>if i=n then v else f i):=by
 apply Array.ext
 ·simp[fJ]
 intro i h1 h2
 have h3:i<64:=by simpa[fJ] using h2
 rw[uL (by simpa[fJ] using h3)]
 by_cases e:n=i
 ·subst e;simp[fJ]
 have e':¬i=n:=fun h=>e h.symm
 simp[fJ,e,e']
theorem PX(f g:Nat->Nat)(h:∀i,i<64->f i=g i):fJ f=fJ g:=by
 unfold fJ
 congr 1
 apply qR;intro i hi;rw[h i (kS.1 hi)]
theorem Hg:fJ (fun _=>0)=#[.int .u8 0,.int .u8 0,.int .u8 0,.int .u8 0,.int .u8 0,.int .u8 0,.int .u8 0,.int .u8 0,.int .u8 0,.int .u8 0,.int .u8 0,.int .u8 0,.int .u8 0,.int .u8 0,.int .u8 0,.int .u8 0,.int .u8 0,.int .u8 0,.int .u8 0,.int .u8 0,.int .u8 0,.int .u8 0,.int .u8 0,.int .u8 0,.int .u8 0,.int .u8 0,.int .u8 0,.int .u8 0,.int .u8 0,.int .u8 0,.int .u8 0,.int .u8 0,.int .u8 0,.int .u8 0,.int .u8 0,.int .u8 0,.int .u8 0,.int .u8 0,.int .u8 0,.int .u8 0,.int .u8 0,.int .u8 0,.int .u8 0,.int .u8 0,.int .u8 0,.int .u8 0,.int .u8 0,.int .u8 0,.int .u8 0,.int .u8 0,.int .u8 0,.int .u8 0,.int .u8 0,.int .u8 0,.int .u8 0,.int .u8 0,.int .u8 0,.int .u8 0,.int .u8 0,.int .u8 0,.int .u8 0,.int .u8 0,.int .u8 0,.int .u8 0]:=rfl
theorem WX(l:List UInt8):
  ((fJ fun _=>0).toList.take (0+0)++(l.take 64).map (fun x=>Value.int .u8 (x.toNat:Int))++(fJ fun _=>0).toList.drop (0+0+((l.take 64).map (fun x=>Value.int .u8 (x.toNat:Int))).length)).toArray=fJ (sD l):=by
 have e0:(fJ fun _=>0).toList=List.replicate 64 (Value.int .u8 0):=by
  unfold fJ;rw[List.toList_toArray];rw[List.eq_replicate_iff];exact⟨by simp,fun b hb=>by obtain⟨x,_,rfl⟩:=fH.1 hb;rfl⟩
 apply Array.ext_getElem?;intro i;rw[e0];simp only[kT,DC,xw,jR,gV,bW,List.getElem?_toArray,List.drop_replicate]
 by_cases h:i<64
 ·rw[qH _ i h]
  by_cases h2:i<l.length
  ·rw[bQ (by simp;omega)]
   simp[h,sD,h2]
  rw[dh (by simp;omega),RQ l i (by omega)]
  simp[II]
  omega
 rw[gK (by simp;omega),eU (by rw[jy];omega)]
variable {P:Program}
theorem LH(w:aj)(dT sT ty elem:TypeId)(g:Nat)(s:ah)(t:TypeId)
  (hu:P.underlying dT=some (.slice elem)) (hs:(P.info? elem).map (·.size)=some 1) (hg:w.heap[g]?=some (.cells (fJ fun _=>0) t (0,0))):
  (Builtin.copy_ #[dT,sT] ty #[.slice (some ⟨g,0,none⟩) 64 64,.string s]).run P w=.ok (goInt (Nat.min s.size 64)) (w.setRow g (fJ (sD s.data.toList))):=by
 have hsl:s.data.toList.length=s.size:=rfl
 have hst:=acK P g 0 t ((s.data.toList.take 64).map (fun x=>Value.int .u8 (x.toNat:Int))) 0 (fJ fun _=>0) w hg (by rw[jy];simp;omega) (by
  intro v hv;obtain⟨x,_,rfl⟩:=fH.1 hv
  rfl)
 rw[WX] at hst
 cases hq:P.info? elem with
 |none=>simp[hq] at hs
 |some i=>
  have htk:List.take (s.size.min 64) (List.map (fun x:UInt8=>Value.int IntKind.u8 (x.toNat:Int)) s.data.toList)=(s.data.toList.take 64).map (fun x=>Value.int .u8 (x.toNat:Int)):=by
   rw[<-List.map_take]
   congr 1
   by_cases h:s.size<=64
   ·rw[show s.size.min 64=s.size from lG h,bF (by omega),bF (by omega)]
   rw[show s.size.min 64=64 from aaU (by omega)]
  simp[Builtin.copy_,mZ hu,Builtin.lenOf,Builtin.firstCells,sizeOf,typeInfo,hq]
  rw[htk,hst]
  simp[Result.andThen]
theorem uK{P:Program}{w:aj}{ops:Array Oper}{rest:List Oper}{o:Oper}{a:Act}{Q:Exit->Act->aj->Prop}(hgd:o.guard=none)(d x:Operand)(dT sT:TypeId)
  (ho:o.op=.call {callee:=.builtin .copy,args:=#[d,x],argTypes:=#[dT,sT]}) (elem:TypeId) (hu:P.underlying dT=some (.slice elem)) (hsz:(P.info? elem).map (·.size)=some 1)
  (g:Nat) (s:ah) (hd:a.eval d=.slice (some ⟨g,0,none⟩) 64 64) (hs:a.eval x=.string s)
  (t:TypeId) (hg:w.heap[g]?=some (.cells (fJ fun _=>0) t (0,0)))
  (h:∀w',Hid (w'.heap[g]?=some (.cells (fJ (sD s.data.toList)) t (0,0)))->Hid (∀k,k≠g->w'.heap[k]?=w.heap[k]?)->Hid (∀B w0,Below B w0 w->B<=g->Below B w0 w')->wpList P ops Q rest (a.put o.dst (goInt (Nat.min s.size 64))) w'):wpList P ops Q (o::rest) a w:=by
 refine wpList_plain hgd fun K hK=>?_
 have hrun:=LH (P:=P) w dT sT o.type elem g s t hu hsz hg;unfold Oper.wp
 simp[execOp,ho,resolve,invoke,builtin,hd,hs,hrun,Result.andThen]
 exact hK _ _ (h _ (setRow_heap w g _ _ t _ hg) (fun k hk=>setRow_other w g k _ hk) (fun B w0 hb hB=>below_setRow hb hB _))
theorem QC(K:Nat->Nat)(s:Sha.St)(hs:s.Ok)(b:Nat->Nat)(hb:∀i,b i<256)(w:aj)
  (hK:∀i,i<64->w.cell? ⟨10,i,none⟩=some (.int .u32 (K i))) (hKl:∀i,K i<4294967296):
  Calls Tryz.prog 204 #[.agg (oz s.get),.agg (fJ b)] w fun e w'=>∃s':Sha.St,Hid (s'=Sha.mixed K s b)/\e=.returned (.agg (oz s'.get))/\Below w.heap.size w w':=
 (adX K s hs b hb w hK hKl).mono fun _ _ ⟨h1,h2⟩=>⟨_,rfl,h1,h2⟩
def adT(b:Nat->Nat)(len:Nat)(i:Nat):Nat:=if 56<=i/\i<64 then len*8/2 ^ (8*(63-i)) % 256 else b i
def marked(r:List UInt8)(i:Nat):Nat:=if i=r.length then 128 else sD r i
def Am(K:Nat->Nat)(s:Sha.St)(r:List UInt8)(len:Nat):Sha.St:=
 if 56<r.length+1 then Sha.mixed K (Sha.mixed K s (marked r)) (adT (fun _=>0) len) else Sha.mixed K s (adT (marked r) len)
theorem Ow(r:List UInt8)(i:Nat):marked r i<256:=by
 unfold marked;split
 ·decide
 exact NK _ _
theorem XW(b:Nat->Nat)(hb:∀i,b i<256)(len i:Nat):adT b len i<256:=by
 unfold adT;split
 ·exact kU _ (by decide)
 exact hb i
structure ja(s:Sha.St)(b:Nat->Nat)(w:aj)(wr:aj):Prop where
 st:wr.heap[w.heap.size]?=some (.cells (oz s.get) 319 (0,0))
 res:wr.heap[w.heap.size+1]?=some (.cells (oz fun _=>0) 319 (0,0))
 blk:wr.heap[w.heap.size+1+1]?=some (.cells (fJ b) 320 (0,0))
 below:Below w.heap.size w wr
variable {s:Sha.St}{b:Nat->Nat}{w wr:aj}
theorem ja.set(h:ja s b w wr)(n v:Nat):ja s (fun i=>if i=n then v else b i) w (wr.setCell ⟨w.heap.size+1+1,n,none⟩ (.int .u8 (v:Int))) where
 st:=by rw[iP (by simp;omega)];exact h.st
 res:=by rw[iP (by simp)];exact h.res
 blk:=by rw[xY h.blk,VE]
 below:=h.below.setCell (by simp;omega) _
theorem ja.congr{b':Nat->Nat}(h:ja s b w wr)(e:∀i,i<64->b i=b' i):ja s b' w wr:=
 ⟨h.st,h.res,by rw[h.blk,PX _ _ e],h.below⟩
variable {K:Nat->Nat}
theorem ja.keys(h:ja s b w wr)(hK:∀i,i<64->w.cell? ⟨10,i,none⟩=some (.int .u32 (K i))):
  ∀i,i<64->wr.cell? ⟨10,i,none⟩=some (.int .u32 (K i)):=fun i hi=>by
 rw[h.below.cell (p:=⟨10,i,none⟩) (aC (hK i hi))];exact hK i hi
variable {w2:aj}
theorem ja.past(h:ja s b w wr)(hb:Below wr.heap.size wr w2):ja s b w w2:=
 have lt:w.heap.size+1+1<wr.heap.size:=by
  rcases bR (w.heap.size+1+1) wr.heap.size with g|g
  ·exact g
  have:=h.blk;rw[eU g] at this;cases this
 ⟨by rw[hb.block _ (by omega)];exact h.st,by rw[hb.block _ (by omega)];exact h.res,by rw[hb.block _ (by omega)];exact h.blk,h.below.trans (hb.mono (by omega))⟩
theorem ja.state(h:ja s b w wr)(s':Sha.St):ja s' b w (wr.setCells w.heap.size 0 (oz s'.get).toList):=
 ⟨mJ _ _ _ _ _ h.st (by rw[iZ,iZ]),by rw[oM _ _ _ _ _ (by omega)];exact h.res,by rw[oM _ _ _ _ _ (by omega)];exact h.blk,ji _ _ h.below (ai _)⟩
theorem ja.zeros(h:ja s b w wr):ja s (fun _=>0) w (wr.setCells (w.heap.size+1+1) 0 (fJ fun _=>0).toList):=
 ⟨by rw[oM _ _ _ _ _ (by omega)];exact h.st,by rw[oM _ _ _ _ _ (by omega)];exact h.res,mJ _ _ _ _ _ h.blk (by rw[jy,jy]),ji _ _ h.below (by omega)⟩
variable {l:List UInt8}
theorem ja.copied{z:Nat->Nat}{W:aj}(h:ja s z w W)(ha:Hid (w2.heap[w.heap.size+1+1]?=some (.cells (fJ (sD l)) 320 (0,0))))(hb:Hid (∀k,k≠w.heap.size+1+1->w2.heap[k]?=W.heap[k]?))
  (hc:Hid (∀B w0,Below B w0 W->B<=w.heap.size+1+1->Below B w0 w2)):ja s (sD l) w w2:=
 ⟨(hb.out _ (by omega)).trans h.st,(hb.out _ (by omega)).trans h.res,ha.out,hc.out _ _ h.below (by omega)⟩
theorem ja.mark(h:ja s (sD l) w w2)(n:Nat)(hn:l.length=n):ja s (marked l) w (w2.setCell ⟨w.heap.size+1+1,n,none⟩ (.int .u8 128)):=by
 subst hn;exact(h.set l.length 128).congr (fun i _=>rfl)
def Bd(b:Nat->Nat)(len m i:Nat):Nat:=if 64-m<=i/\i<64 then len*8/2 ^ (8*(63-i)) % 256 else b i
theorem KO(b:Nat->Nat)(len i:Nat):Bd b len 0 i=b i:=by unfold Bd;rw[ax (by omega)]
theorem WA(b:Nat->Nat)(len m:Nat)(hm:m<8)(i:Nat):(if i=63-m then len*8/2 ^ (8*m) % 256 else Bd b len m i)=Bd b len (m+1) i:=by
 by_cases e:i=63-m
 ·subst e;rw[aD rfl];unfold Bd;rw[aD (by omega),show 63-(63-m)=m by omega]
 rw[ax e];unfold Bd
 by_cases c:64-m<=i/\i<64
 ·rw[aD c,aD (by omega)]
 rw[ax c,ax (by omega)]
theorem ja.len{len m:Nat}(h:ja s (Bd b len m) w wr)(hm:m<8)(o:Nat)(ho:o=63-m)(v:Int)(hv:v=((len*8/2 ^ (8*m) % 256:Nat):Int)):
  ja s (Bd b len (m+1)) w (wr.setCell ⟨w.heap.size+1+1,o,none⟩ (.int .u8 v)):=by
 subst ho hv;exact(h.set (63-m) (len*8/2 ^ (8*m) % 256)).congr (fun i _=>WA b len m hm i)
theorem WK(K:Nat->Nat)(s:Sha.St)(hs:s.Ok)(r:ah)(hr:r.size<64)(len:Nat)(hlen:len<2305843009213693952)(w:aj)
  (hK:∀i,i<64->w.cell? ⟨10,i,none⟩=some (.int .u32 (K i))) (hKl:∀i,K i<4294967296):
  Calls Tryz.prog 206 #[.agg (oz s.get),.string r,.int .u64 len] w fun e w'=>∃s':Sha.St,Hid (s'=Am K s r.data.toList len)/\e=.returned (.agg (oz s'.get))/\Below w.heap.size w w':=by
 have hz1:=iZ s.get;have hsl:r.data.toList.length=r.size:=rfl
 have HZ:Hid (ja s (fun _=>0) w (((w.alloc (.cells (oz s.get) 319)).alloc (.cells (oz fun _=>0) 319)).alloc (.cells (fJ fun _=>0) 320))):=
  ⟨by rw[aZ _ _ _ (by simp;omega),aZ _ _ _ (by simp)];exact aW _ _ _ rfl,by rw[aZ _ _ _ (by simp)];exact aW _ _ _ (by simp),aW _ _ _ (by simp),(((au _ _).alloc (ai _) _).alloc (by simp) _).alloc (by simp;omega) _⟩
 have RS:=aP hs;have RK:=aP hK;have RL:=aP hKl;clear hs hK hKl
 have i131:(Tryz.prog.info? 319).map (·.size)=some 8:=by kernel_rfl
 have SS:(Tryz.prog.info? 320).map (·.size)=some 64:=by kernel_rfl
 have i5:(Tryz.prog.info? 5).map (·.size)=some 1:=by kernel_rfl
 have b0:(0:Int)<=(r.size:Int):=by omega
 have b1:(r.size:Int)<64:=by omega
 go_enter Tryz.func206,Tryz.ntmps206
 by_cases hlong:56<r.size+1
 ·have l1:(56:Int)<(r.size:Int)+1:=by omega
  go_wp2_with (first
   | (refine uK rfl (.tmp 10) (.tmp 11) 219 9 rfl 5 Tryz.underlying219 i5 (w.heap.size+1+1) r rfl rfl 320 (by exact HZ.out.blk) ?_;intro w2 h2a h2b h2c;have hck:∃v,w2.cell? ⟨w.heap.size+1+1,r.size,none⟩=some v:=⟨_,(bZ h2a.out).trans (qH _ _ hr)⟩;obtain⟨vk,hck⟩:=hck;have hfk:w2.frozen? ⟨w.heap.size+1+1,r.size,none⟩=false:=iG h2a.out;have HM:Hid (ja s (marked r.data.toList) w (w2.setCell ⟨w.heap.size+1+1,r.size,none⟩ (.int .u8 128))):=(HZ.out.copied h2a h2b h2c).mark r.size rfl;clear h2a h2b h2c)
   | (refine gJ rfl 319 _ rfl w.heap.size rfl 319 (oz s.get) (0,0) _ (by exact HM.out.st) Tryz.underlying319 rfl (by rw[hz1];exact i131) ?_)
   | (refine gJ rfl 320 _ rfl (w.heap.size+1+1) rfl 320 (fJ (marked r.data.toList)) (0,0) _ (by exact HM.out.blk) Tryz.underlying320 rfl (by rw[jy];exact SS) ?_))
  refine(QC K s RS.out _ (Ow _) _ (HM.out.keys RK.out) RL.out).mono ?_;rintro e w3 ⟨s1,FT,rfl,hb3⟩;have HM3:=aP (HM.out.past hb3);clear hb3 HM hck hfk vk;clear w2;have hz3:=iZ s1.get;have qY:=aP ((HM3.out.state s1).zeros)
  go_wp2_with (refine bU rfl 319 _ _ rfl w.heap.size 0 (oz s1.get) rfl rfl (bM HM3.out.st 0 _ (by rw[hz3,hz1];omega)) (by rw[hz3];exact i131) (Cz _) ?_;refine dI ?_)
  unfold Hid
  go_wp2_with (refine bU rfl 320 _ _ rfl (w.heap.size+1+1) 0 (fJ fun _=>0) ?hx ?hy ?ht ?hi ?h1 ?_)
  case hx=>rfl
  case hy=>rw[Hg];rfl
  case ht=>exact bM (HM3.out.state s1).blk 0 _ (by rw[jy,jy];omega)
  case hi=>rw[jy];exact SS
  case h1=>exact VD _
  go_loopw [26] (fun i wr=>∃m:Nat,m<=8/\i=.int .i64 m/\ja s1 (Bd (fun _=>0) len m) w wr) (fun i _=>8-(intOf i).toNat)
  case atStart=>exact⟨0,by omega,rfl,qY.out.congr (fun i _=>(KO (fun _=>0) len i).symm)⟩
  case round=>
   clear qY;obtain⟨m,hm,rfl,hmem⟩:=hrel;have HN:=aP hmem;clear hmem
   by_cases hlt:m<8
   ·have hck:∃v,wr.cell? ⟨w.heap.size+1+1,63-m,none⟩=some v:=⟨_,(bZ HN.out.blk).trans (qH _ _ (by omega))⟩;obtain⟨vk,hck⟩:=hck;have hfk:wr.frozen? ⟨w.heap.size+1+1,63-m,none⟩=false:=iG HN.out.blk
    have i0:(0:Int)<=(m:Int):=by omega
    have i1:(m:Int)<8:=by omega
    have j0:(0:Int)<=63-(m:Int):=by omega
    have j1:63-(m:Int)<64:=by omega
    have j2:(0:Int)<=8*(m:Int):=by omega
    go_wp2
    go_roundw
    case rel=>
     have hv:(len:Int)*8/2 ^ (8*m) % 256=((len*8/2 ^ (8*m) % 256:Nat):Int):=by simp
     first
      |exact⟨m+1,by omega,by go_num,HN.out.len hlt _ rfl _ hv⟩
      | ((repeat apply Exists.intro);exact⟨⟨m+1,by omega,by go_num,HN.out.len hlt _ rfl _ hv⟩,rfl⟩)
    case measure=>simp[intOf];omega
   obtain rfl:m=8:=by omega
   have hzs:=iZ s1.get;obtain⟨BL,tq⟩:∃BL,Hid (BL=Bd (fun _=>0) len 8):=⟨_,rfl⟩
   have HN':Hid (ja s1 BL w wr):=by rw[tq.out];exact HN
   clear HN
   go_wp2_with (first
    | (refine gJ rfl 319 _ rfl w.heap.size rfl 319 (oz s1.get) (0,0) _ (by exact HN'.out.st) Tryz.underlying319 rfl (by rw[hzs];exact i131) ?_)
    | (refine gJ rfl 320 _ rfl (w.heap.size+1+1) rfl 320 (fJ BL) (0,0) _ (by exact HN'.out.blk) Tryz.underlying320 rfl (by rw[jy];exact SS) ?_))
   refine(QC K s1 (by rw[FT.out];exact Sha.KR _ _ _) _ (fun i=>by rw[tq.out];exact XW (fun _=>0) (fun _=>by decide) len i) _ (HN'.out.keys RK.out) RL.out).mono ?_;rintro e w5 ⟨s2,HS2,rfl,hb5⟩;have GV:=aP (HN'.out.past hb5);clear HN' hb5;have hz5:=iZ s2.get;have hy2:=iZ (fun _=>0)
   go_wp2_with (refine bU rfl 319 _ _ rfl (w.heap.size+1) 0 (oz s2.get) rfl rfl (bM GV.out.res 0 _ (by rw[hz5,hy2];omega)) (by rw[hz5];exact i131) (Cz _) ?_)
   refine bP (pI Tryz.results206 _ _ (w.heap.size+1) 319 (oz s2.get) (0,0) _ rfl (mJ _ _ _ _ _ GV.out.res (by rw[hz5,hy2])) Tryz.underlying319 rfl (by rw[hz5];exact i131)) rfl
    ⟨s2,?_,rfl,ji _ _ GV.out.below (by omega)⟩
   show s2=Am K s r.data.toList len;unfold Am;rw[aD (by rw[hsl];exact hlong),<-FT.out];rw[HS2.out,tq.out];rfl
 have l1:¬(56:Int)<(r.size:Int)+1:=by omega
 go_wp2_with (refine uK rfl (.tmp 10) (.tmp 11) 219 9 rfl 5 Tryz.underlying219 i5 (w.heap.size+1+1) r rfl rfl 320 (by exact HZ.out.blk) ?_;intro w2 h2a h2b h2c;have hck:∃v,w2.cell? ⟨w.heap.size+1+1,r.size,none⟩=some v:=⟨_,(bZ h2a.out).trans (qH _ _ hr)⟩;obtain⟨vk,hck⟩:=hck;have hfk:w2.frozen? ⟨w.heap.size+1+1,r.size,none⟩=false:=iG h2a.out;have HM:Hid (ja s (marked r.data.toList) w (w2.setCell ⟨w.heap.size+1+1,r.size,none⟩ (.int .u8 128))):=(HZ.out.copied h2a h2b h2c).mark r.size rfl;clear h2a h2b h2c)
 clear hck hfk vk
 go_loopw [26] (fun i wr=>∃m:Nat,m<=8/\i=.int .i64 m/\ja s (Bd (marked r.data.toList) len m) w wr) (fun i _=>8-(intOf i).toNat)
 case atStart=>exact⟨0,by omega,rfl,HM.out.congr (fun i _=>(KO (marked r.data.toList) len i).symm)⟩
 case round=>
  clear HM;obtain⟨m,hm,rfl,hmem⟩:=hrel;have HN:=aP hmem;clear hmem
  by_cases hlt:m<8
  ·have hck:∃v,wr.cell? ⟨w.heap.size+1+1,63-m,none⟩=some v:=⟨_,(bZ HN.out.blk).trans (qH _ _ (by omega))⟩;obtain⟨vk,hck⟩:=hck;have hfk:wr.frozen? ⟨w.heap.size+1+1,63-m,none⟩=false:=iG HN.out.blk
   have i0:(0:Int)<=(m:Int):=by omega
   have i1:(m:Int)<8:=by omega
   have j0:(0:Int)<=63-(m:Int):=by omega
   have j1:63-(m:Int)<64:=by omega
   have j2:(0:Int)<=8*(m:Int):=by omega
   go_wp2
   go_roundw
   case rel=>
    have hv:(len:Int)*8/2 ^ (8*m) % 256=((len*8/2 ^ (8*m) % 256:Nat):Int):=by simp
    first
     |exact⟨m+1,by omega,by go_num,HN.out.len hlt _ rfl _ hv⟩
     | ((repeat apply Exists.intro);exact⟨⟨m+1,by omega,by go_num,HN.out.len hlt _ rfl _ hv⟩,rfl⟩)
   case measure=>simp[intOf];omega
  obtain rfl:m=8:=by omega
  have hzs:=iZ s.get;obtain⟨BL,tq⟩:∃BL,Hid (BL=Bd (marked r.data.toList) len 8):=⟨_,rfl⟩
  have HN':Hid (ja s BL w wr):=by rw[tq.out];exact HN
  clear HN
  go_wp2_with (first
   | (refine gJ rfl 319 _ rfl w.heap.size rfl 319 (oz s.get) (0,0) _ (by exact HN'.out.st) Tryz.underlying319 rfl (by rw[hzs];exact i131) ?_)
   | (refine gJ rfl 320 _ rfl (w.heap.size+1+1) rfl 320 (fJ BL) (0,0) _ (by exact HN'.out.blk) Tryz.underlying320 rfl (by rw[jy];exact SS) ?_))
  refine(QC K s RS.out _ (fun i=>by rw[tq.out];exact XW (marked r.data.toList) (Ow _) len i) _ (HN'.out.keys RK.out) RL.out).mono ?_;rintro e w5 ⟨s2,HS2,rfl,hb5⟩;have GV:=aP (HN'.out.past hb5);clear HN' hb5;have hz5:=iZ s2.get;have hy2:=iZ (fun _=>0)
  go_wp2_with (refine bU rfl 319 _ _ rfl (w.heap.size+1) 0 (oz s2.get) rfl rfl (bM GV.out.res 0 _ (by rw[hz5,hy2];omega)) (by rw[hz5];exact i131) (Cz _) ?_)
  refine bP (pI Tryz.results206 _ _ (w.heap.size+1) 319 (oz s2.get) (0,0) _ rfl (mJ _ _ _ _ _ GV.out.res (by rw[hz5,hy2])) Tryz.underlying319 rfl (by rw[hz5];exact i131)) rfl
   ⟨s2,?_,rfl,ji _ _ GV.out.below (by omega)⟩
  show s2=Am K s r.data.toList len;unfold Am;rw[ax (by rw[hsl];exact hlong)];rw[HS2.out,tq.out];rfl
def Sha.H0:Sha.St:=⟨1779033703,3144134277,1013904242,2773480762,1359893119,2600822924,528734635,1541459225⟩
theorem Sha.ag0:Sha.H0.Ok:=by constructor<;>decide
theorem agn:oz Sha.H0.get=#[.int .u32 1779033703,.int .u32 3144134277,.int .u32 1013904242,.int .u32 2773480762,.int .u32 1359893119,.int .u32 2600822924,.int .u32 528734635,.int .u32 1541459225]:=rfl
def Ga(K:Nat->Nat)(l:List UInt8):Nat->Sha.St
 |0=>Sha.H0
 |n+1=>Sha.mixed K (Ga K l n) (sD (l.drop (64*n)))
theorem YH(K:Nat->Nat)(l:List UInt8):∀n,(Ga K l n).Ok
 |0=>Sha.ag0
 |_+1=>Sha.KR _ _ _
def EH(K:Nat->Nat)(l:List UInt8):Sha.St:=Am K (Ga K l (l.length/64)) (l.drop (64*(l.length/64))) l.length
structure wS(s:Sha.St)(w wr:aj):Prop where
 res:wr.heap[w.heap.size]?=some (.cells (kG fun _=>0) 217 (0,0))
 st:wr.heap[w.heap.size+1]?=some (.cells (oz s.get) 319 (0,0))
 below:Below w.heap.size w wr
theorem wS.lt(h:wS s w wr):w.heap.size+1<wr.heap.size:=by
 rcases bR (w.heap.size+1) wr.heap.size with g|g
 ·exact g
 have:=h.st;rw[eU g] at this;cases this
theorem wS.past(h:wS s w wr)(hb:Below wr.heap.size wr w2):wS s w w2:=
 have:=h.lt
 ⟨by rw[hb.block _ (by omega)];exact h.res,by rw[hb.block _ (by omega)];exact h.st,h.below.trans (hb.mono (by omega))⟩
theorem wS.state(h:wS s w wr)(s':Sha.St):wS s' w (wr.setCells (w.heap.size+1) 0 (oz s'.get).toList):=
 ⟨by rw[oM _ _ _ _ _ (by omega)];exact h.res,mJ _ _ _ _ _ h.st (by rw[iZ,iZ]),ji _ _ h.below (by omega)⟩
theorem wS.keys(h:wS s w wr)(hK:∀i,i<64->w.cell? ⟨10,i,none⟩=some (.int .u32 (K i))):
  ∀i,i<64->wr.cell? ⟨10,i,none⟩=some (.int .u32 (K i)):=fun i hi=>by
 rw[h.below.cell (p:=⟨10,i,none⟩) (aC (hK i hi))];exact hK i hi
theorem wS.copied{o:Obj}(h:wS s w wr)(hb:Hid (∀k,k≠wr.heap.size->w2.heap[k]?=(wr.alloc o).heap[k]?))(hc:Hid (∀B w0,Below B w0 (wr.alloc o)->B<=wr.heap.size->Below B w0 w2)):wS s w w2:=
 have:=h.lt
 ⟨by rw[hb.out _ (by omega),aZ _ _ _ (by omega)];exact h.res,by rw[hb.out _ (by omega),aZ _ _ _ (by omega)];exact h.st,hc.out _ _ (h.below.alloc (by omega) _) (by omega)⟩
def Rf:Value->Nat|.string s=>s.size|_=>0
theorem YS(l:List UInt8)(n:Nat):(l.drop (64*n)).drop 64=l.drop (64*(n+1)):=by rw[List.drop_drop];congr 1
theorem WS(K:Nat->Nat)(t:ah)(ht:t.size<140737488355328)(w:aj)
  (hK:∀i,i<64->w.cell? ⟨10,i,none⟩=some (.int .u32 (K i))) (hKl:∀i,K i<4294967296):
  Calls Tryz.prog 124 #[.string t] w fun e w'=>∃s:Sha.St,Hid (s=EH K t.data.toList)/\e=.returned (.agg (kG s.byte))/\Below w.heap.size w w':=by
 have hsl:t.data.toList.length=t.size:=rfl;have RK:=aP hK;have RL:=aP hKl;clear hK hKl
 have i131:(Tryz.prog.info? 319).map (·.size)=some 8:=by kernel_rfl
 have SS:(Tryz.prog.info? 320).map (·.size)=some 64:=by kernel_rfl
 have i5:(Tryz.prog.info? 5).map (·.size)=some 1:=by kernel_rfl
 have HZ:Hid (wS Sha.H0 w (((w.alloc (.cells (kG fun _=>0) 217)).alloc (.cells (oz fun _=>0) 319)).setCells (w.heap.size+1) 0 (oz Sha.H0.get).toList)):=
  ⟨by rw[oM _ _ _ _ _ (by omega),aZ _ _ _ (by simp)];exact aW _ _ _ rfl,mJ _ _ _ _ _ (aW _ _ _ (by simp)) (by rw[iZ,iZ]),ji _ _ (((au _ _).alloc (ai _) _).alloc (by simp) _) (by omega)⟩
 go_enter Tryz.func124,Tryz.ntmps124
 go_wp2_with (refine bU rfl 319 _ _ rfl (w.heap.size+1) 0 (oz Sha.H0.get) rfl ?hy (bM (aW _ _ _ (by simp)) 0 _ (by rw[iZ];decide)) (by rw[iZ];exact i131) (Cz _) ?_)
 case hy=>rw[agn]
 rw[<-Gz,<-Ux]
 go_loopw [4] (fun v wr=>∃(n:Nat) (ρ:ah) (st:Sha.St),64*n<=t.size/\v=.string ρ/\Hid (ρ.data.toList=t.data.toList.drop (64*n))/\Hid (st=Ga K t.data.toList n)/\wS st w wr) (fun v _=>Rf v)
 case atStart=>exact⟨0,t,Sha.H0,by omega,rfl,rfl,rfl,HZ.out⟩
 case round=>
  clear HZ;obtain⟨n,ρ,st,hn,rfl,HR,HS,hmem⟩:=hrel;have HM:=aP hmem;clear hmem
  have hρ:ρ.size=t.size-64*n:=by
   have:=gW List.length HR.out;rw[vM,hsl] at this;exact this
  have HP:=aP hρ;have hlt2:=HM.out.lt
  have Zk:Hid (st.Ok):=by show st.Ok;rw[HS.out];exact YH _ _ _
  have hzs:=iZ st.get
  by_cases hlt:64<=ρ.size
  ·clear hρ
   have g1:(64:Int)<=(ρ.size:Int):=by omega
   go_wp2_with (first
    | (refine uK rfl (.tmp 11) (.tmp 12) 219 9 rfl 5 Tryz.underlying219 i5 wr.heap.size ρ rfl rfl 320 (by rw[Hg];exact aW _ _ _ rfl) ?_;intro w2 h2a h2b h2c;have HM2:Hid (wS st w w2):=HM.out.copied h2b h2c)
    | (refine gJ rfl 319 _ rfl (w.heap.size+1) rfl 319 (oz st.get) (0,0) _ (by exact HM2.out.st) Tryz.underlying319 rfl (by rw[hzs];exact i131) ?_)
    | (refine gJ rfl 320 _ rfl wr.heap.size rfl 320 (fJ (sD ρ.data.toList)) (0,0) _ (by exact h2a.out) Tryz.underlying320 rfl (by rw[jy];exact SS) ?_))
   refine(QC K st Zk.out _ (NK _) _ (HM2.out.keys RK.out) RL.out).mono ?_;rintro e w3 ⟨s1,FT,rfl,hb3⟩;have HM3:=aP (HM2.out.past hb3);clear HM2 hb3 h2a h2b h2c;have hz3:=iZ s1.get
   go_wp2_with (refine bU rfl 319 _ _ rfl (w.heap.size+1) 0 (oz s1.get) rfl rfl (bM HM3.out.st 0 _ (by rw[hz3,hzs];omega)) (by rw[hz3];exact i131) (Cz _) ?_;refine dI ?_)
   have qY:=aP (HM3.out.state s1)
   have HQ:Hid (s1=Ga K t.data.toList (n+1)):=by
    show s1=Sha.mixed K (Ga K t.data.toList n) (sD (t.data.toList.drop (64*n)));rw[FT.out,HS.out,HR.out]
   clear HM HM3 FT HS;generalize w3.setCells (w.heap.size+1) 0 (oz s1.get).toList=w4 at*;unfold Hid
   go_wp2
   have hx1:(ρ.extract 64 ρ.size).data.toList=t.data.toList.drop (64*(n+1)):=by
    rw[<-YS,<-HR.out];rw[Lib.extract_data,bF (by rw[vM];exact ai _)]
   have hx2:(ρ.extract 64 ρ.size).size=ρ.size-64:=by simp
   have hP:=HP.out
   go_roundw
   case rel=>exact⟨n+1,_,s1,by omega,rfl,hx1,HQ,qY.out⟩
   case measure=>simp[Rf];omega
  have aiA:n=t.size/64:=by omega
  have HN:=aP aiA;clear hρ aiA
  have g1:¬(64:Int)<=(ρ.size:Int):=by omega
  have hfit:IntKind.u64.wrap (t.size:Int)=(t.size:Int):=by rw[IntKind.wrap_u64];omega
  go_wp2_with (refine gJ rfl 319 _ rfl (w.heap.size+1) rfl 319 (oz st.get) (0,0) _ (by exact HM.out.st) Tryz.underlying319 rfl (by rw[hzs];exact i131) ?_)
  refine(WK K st Zk.out ρ (by omega) t.size (by omega) _ (HM.out.keys RK.out) RL.out).mono ?_;rintro e w3 ⟨s1,FT,rfl,hb3⟩;have HM3:=aP (HM.out.past hb3);clear HM hb3
  have hok1:Hid (s1.Ok):=by
   show s1.Ok;rw[FT.out];unfold Am
   split<;>exact Sha.KR _ _ _
  go_wp2_with fail
  refine(LX s1 hok1.out _).mono ?_;rintro e w4 ⟨rfl,hb4⟩;have qY:=aP (HM3.out.past hb4);clear HM3 hb4;have hy1:=sU s1.byte;have hy2:=sU (fun _=>0)
  have i67:(Tryz.prog.info? 217).map (·.size)=some 32:=by kernel_rfl
  go_wp2_with (refine bU rfl 217 _ _ rfl w.heap.size 0 (kG s1.byte) rfl rfl (bM qY.out.res 0 _ (by rw[hy1,hy2];omega)) (by rw[hy1];exact i67) (Lb _) ?_)
  refine bP (pI Tryz.results124 _ _ w.heap.size 217 (kG s1.byte) (0,0) _ rfl (mJ _ _ _ _ _ qY.out.res (by rw[hy1,hy2])) Tryz.underlying217 rfl (by rw[hy1];exact i67)) rfl
   ⟨s1,?_,rfl,ji _ _ qY.out.below (ai _)⟩
  show s1=EH K t.data.toList;unfold EH;rw[FT.out,HR.out,HS.out,HN.out,hsl]
def Az(f:Nat->Nat):ah:=⟨((List.range 32).map fun j=>UInt8.ofNat (f j)).toArray⟩
theorem Uf(ns:List Int):∀r:ah,(ns.foldl (fun r n=>r.push (UInt8.ofNat n.toNat)) r)=⟨r.data++(ns.map fun n=>UInt8.ofNat n.toNat).toArray⟩:=by
 induction ns with
 |nil=>intro r;simp
 |cons n ns ih=>
  intro r;rw[jr,ih]
  simp[ByteArray.push]
theorem LJ(w:aj)(src dst e:TypeId)(g:Nat)(t:TypeId)(f:Nat->Nat)
  (hs:P.underlying src=some (.slice e)) (he:P.underlying e=some (.int .u8)) (hd:P.underlying dst=some .string) (hg:w.heap[g]?=some (.cells (kG f) t (0,0))):
  (convert src dst (.slice (some ⟨g,0,none⟩) 32 32)).run P w=.ok (.string (Az f)) w:=by
 rw[run_convert_bytes_string w src dst e _ _ _ hs he hd]
 have hl:(loadCells ⟨g,0,none⟩ (kG f).toList.length).run P w=.ok (kG f).toList.toArray w:=
  run_loadCells_list (P:=P) w ⟨g,0,none⟩ (kG f).toList (fun j v hv=>by
   have hadd:(⟨g,0,none⟩:Addr).add j=⟨g,j,none⟩:=by unfold Addr.add;split<;>simp_all
   rw[hadd,cell_of_row w g j _ t _ hg]
   simpa using hv)
 rw[aR,sU,cK] at hl
 have e1:kG f=(((List.range 32).map fun i=>((f i:Nat):Int)).map (Value.int .u8)).toArray:=by simp[kG]
 rw[e1] at hl
 have e2:(((List.range 32).map fun i=>((f i:Nat):Int)).foldl (fun r n=>r.push (UInt8.ofNat n.toNat)) ByteArray.empty)=Az f:=by
  rw[Uf,List.map_map];show(⟨#[]++((List.range 32).map ((fun n:Int=>UInt8.ofNat n.toNat)∘fun i=>((f i:Nat):Int))).toArray⟩:ah)=_;rw[Array.empty_append];rfl
 rw[run_bytesToString w _ _ _ _ hl,e2]
theorem aeg(K:Nat->Nat)(t:ah)(ht:t.size<140737488355328)(w:aj)
  (hK:∀i,i<64->w.cell? ⟨10,i,none⟩=some (.int .u32 (K i))) (hKl:∀i,K i<4294967296):
  Calls Tryz.prog 77 #[.string t] w fun e w'=>∃s:Sha.St,Hid (s=EH K t.data.toList)/\e=.returned (.string (Az s.byte))/\Below w.heap.size w w':=by
 have i67:(Tryz.prog.info? 217).map (·.size)=some 32:=by kernel_rfl
 go_enter Tryz.func77,Tryz.ntmps77
 go_wp2_with fail
 refine(WS K t ht _ hK hKl).mono ?_;rintro e w1 ⟨s,HS,rfl,hb1⟩;have hy1:=sU s.byte
 go_wp2_with (refine bU rfl 217 _ _ rfl w1.heap.size 0 (kG s.byte) rfl rfl (bM (aW _ _ _ rfl) 0 _ (by rw[hy1];decide)) (by rw[hy1];exact i67) (Lb _) ?_;refine dI ?_)
 rw[<-Gz];have hrow:((w1.alloc (.cells (kG fun _=>0) 217)).setCells w1.heap.size 0 (kG s.byte).toList).heap[w1.heap.size]?=some (.cells (kG s.byte) 217 (0,0)):=mJ _ _ _ _ _ (aW _ _ _ rfl) (by rw[hy1,sU]);have HB:Hid (Below w.heap.size w ((w1.alloc (.cells (kG fun _=>0) 217)).setCells w1.heap.size 0 (kG s.byte).toList)):=ji _ _ (hb1.alloc hb1.size _) hb1.size;have HR:=aP hrow;clear hrow hb1;generalize (w1.alloc (.cells (kG fun _=>0) 217)).setCells w1.heap.size 0 (kG s.byte).toList=w2 at*;have anl:=LJ (P:=Tryz.prog) w2 219 9 5 w1.heap.size 217 s.byte Tryz.underlying219 Tryz.underlying5 Tryz.underlying9 HR.out;unfold Hid
 go_wp2
 go_ret;exact⟨s,HS,rfl,HB.out⟩
def wY(x:Nat):ah:=⟨#[UInt8.ofNat (x/16777216 % 256),UInt8.ofNat (x/65536 % 256),UInt8.ofNat (x/256 % 256),UInt8.ofNat (x % 256)]⟩
theorem IZ(w:aj)(src dst e t:TypeId)(b0 b1 b2 b3:Nat)
  (hs:P.underlying src=some (.slice e)) (he:P.underlying e=some (.int .u8)) (hd:P.underlying dst=some .string):
  (convert src dst (.slice (some ⟨w.heap.size,0,none⟩) 4 4)).run P (w.alloc (.cells #[.int .u8 (b0:Int),.int .u8 (b1:Int),.int .u8 (b2:Int),.int .u8 (b3:Int)] t))=.ok (.string ⟨#[UInt8.ofNat b0,UInt8.ofNat b1,UInt8.ofNat b2,UInt8.ofNat b3]⟩) (w.alloc (.cells #[.int .u8 (b0:Int),.int .u8 (b1:Int),.int .u8 (b2:Int),.int .u8 (b3:Int)] t)):=by
 rw[run_convert_bytes_string _ src dst e _ _ _ hs he hd]
 have hl:(loadCells ⟨w.heap.size,0,none⟩ ([.int .u8 (b0:Int),.int .u8 (b1:Int),.int .u8 (b2:Int),.int .u8 (b3:Int)]:List Value).length).run P (w.alloc (.cells #[.int .u8 (b0:Int),.int .u8 (b1:Int),.int .u8 (b2:Int),.int .u8 (b3:Int)] t))=.ok ([.int .u8 (b0:Int),.int .u8 (b1:Int),.int .u8 (b2:Int),.int .u8 (b3:Int)]:List Value).toArray _:=
  run_loadCells_list (P:=P) _ ⟨w.heap.size,0,none⟩ _ (fun j v hv=>by
   have hadd:(⟨w.heap.size,0,none⟩:Addr).add j=⟨w.heap.size,j,none⟩:=by unfold Addr.add;split<;>simp_all
   rw[hadd,cell_of_row _ w.heap.size j #[.int .u8 (b0:Int),.int .u8 (b1:Int),.int .u8 (b2:Int),.int .u8 (b3:Int)] t (0,0) (aW _ _ _ rfl)]
   simpa using hv)
 have hl4:(loadCells ⟨w.heap.size,0,none⟩ 4).run P (w.alloc (.cells #[.int .u8 (b0:Int),.int .u8 (b1:Int),.int .u8 (b2:Int),.int .u8 (b3:Int)] t))=.ok ([(b0:Int),(b1:Int),(b2:Int),(b3:Int)].map (Value.int .u8)).toArray (w.alloc (.cells #[.int .u8 (b0:Int),.int .u8 (b1:Int),.int .u8 (b2:Int),.int .u8 (b3:Int)] t)):=hl;rw[run_bytesToString _ _ 4 4 [(b0:Int),(b1:Int),(b2:Int),(b3:Int)] hl4,Uf];rfl
theorem zm(x:Nat)(hx:x<4294967296)(w:aj):
  Calls Tryz.prog 250 #[.int .u32 x] w fun e w'=>e=.returned (.string (wY x))/\Below w.heap.size w w':=by
 have x1:(x:Int)<4294967296:=by omega
 have hc:=IZ (P:=Tryz.prog) w 219 9 5 5 (x/16777216) (x/65536 % 256) (x/256 % 256) (x % 256) Tryz.underlying219 Tryz.underlying5 Tryz.underlying9
 have HE:Hid (wY x=⟨#[UInt8.ofNat (x/16777216),UInt8.ofNat (x/65536 % 256),UInt8.ofNat (x/256 % 256),UInt8.ofNat (x % 256)]⟩):=by
  show _=_;rw[wY,show x/16777216 % 256=x/16777216 by omega]
 rw[show((x/16777216:Nat):Int)=(x:Int)/16777216 by omega,show((x/65536 % 256:Nat):Int)=(x:Int)/65536 % 256 by omega,show((x/256 % 256:Nat):Int)=(x:Int)/256 % 256 by omega,show((x % 256:Nat):Int)=(x:Int) % 256 by omega] at hc
 go_enter Tryz.func250,Tryz.ntmps250
 go_wp2
 go_ret;exact⟨by rw[HE.out];rfl,(au _ _).alloc (ai _) _⟩
def keys:List Nat:=[1116352408,1899447441,3049323471,3921009573,961987163,1508970993,2453635748,2870763221,3624381080,310598401,607225278,1426881987,1925078388,2162078206,2614888103,3248222580,3835390401,4022224774,264347078,604807628,770255983,1249150122,1555081692,1996064986,2554220882,2821834349,2952996808,3210313671,3336571891,3584528711,113926993,338241895,666307205,773529912,1294757372,1396182291,1695183700,1986661051,2177026350,2456956037,2730485921,2820302411,3259730800,3345764771,3516065817,3600352804,4094571909,275423344,430227734,506948616,659060556,883997877,958139571,1322822218,1537002063,1747873779,1955562222,2024104815,2227730452,2361852424,2428436474,2756734187,3204031479,3329325298]
def Ia(i:Nat):Nat:=keys.getD i 0
theorem KJ(i:Nat):Ia i<4294967296:=by
 unfold Ia
 by_cases h:i<64
 ·have:∀x∈keys,x<4294967296:=by decide
  rw[cZ,eP (by exact h)];exact this _ (List.getElem_mem _)
 rw[cZ,gK (by show 64<=i;omega)];decide
def jw(w:aj):Prop:=∀i,i<64->w.cell? ⟨10,i,none⟩=some (.int .u32 (Ia i))
theorem jw.later{w':aj}(h:jw w)(hb:∀k,k<w.heap.size->w'.heap[k]?=w.heap[k]?):jw w':=fun i hi=>by
 rw[aB (w:=w) (a:=⟨10,i,none⟩) (hb _ (aC (h i hi)))];exact h i hi
def gM(t:ah):ah:=Az (EH Ia t.data.toList).byte
theorem kN(t:ah):(gM t).size=32:=by
 show(((List.range 32).map _).toArray).size=32
 simp
