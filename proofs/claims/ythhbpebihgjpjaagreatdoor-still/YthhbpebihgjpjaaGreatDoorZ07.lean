import Derived.Test.YthhbpebihgjpjaaGreatDoorZ06
import Derived.Test.YthhbpebihgjpjaaGreatDoorZ02
import Derived.BigQuiet
import Derived.Deep.RegionHeld3
namespace Go.Proofs.YthhbpebihgjpjaaGreatDoor
set_option maxRecDepth 1000000
set_option maxHeartbeats 20000000
set_option linter.all false
section
open Go.RowKit
def fJ(b:Nat->Nat):Array Value:=((List.range 64).map fun i=>Value.int .u8 (b i)).toArray
def gU(f:Nat->Nat):Array Value:=((List.range 64).map fun i=>Value.int .u32 (f i)).toArray
theorem jy(b:Nat->Nat):(fJ b).size=64:=by simp[fJ]
theorem yO(b:Nat->Nat):(gU b).size=64:=by simp[gU]
theorem qH(b:Nat->Nat)(i:Nat)(h:i<64):(fJ b)[i]?=some (.int .u8 (b i)):=by simp[fJ,h]
theorem CG(b:Nat->Nat)(i:Nat)(h:i<64):(gU b)[i]?=some (.int .u32 (b i)):=by simp[gU,h]
theorem IA:gU (fun _=>0)=#[.int .u32 0,.int .u32 0,.int .u32 0,.int .u32 0,.int .u32 0,.int .u32 0,.int .u32 0,.int .u32 0,.int .u32 0,.int .u32 0,.int .u32 0,.int .u32 0,.int .u32 0,.int .u32 0,.int .u32 0,.int .u32 0,.int .u32 0,.int .u32 0,.int .u32 0,.int .u32 0,.int .u32 0,.int .u32 0,.int .u32 0,.int .u32 0,.int .u32 0,.int .u32 0,.int .u32 0,.int .u32 0,.int .u32 0,.int .u32 0,.int .u32 0,.int .u32 0,.int .u32 0,.int .u32 0,.int .u32 0,.int .u32 0,.int .u32 0,.int .u32 0,.int .u32 0,.int .u32 0,.int .u32 0,.int .u32 0,.int .u32 0,.int .u32 0,.int .u32 0,.int .u32 0,.int .u32 0,.int .u32 0,.int .u32 0,.int .u32 0,.int .u32 0,.int .u32 0,.int .u32 0,.int .u32 0,.int .u32 0,.int .u32 0,.int .u32 0,.int .u32 0,.int .u32 0,.int .u32 0,.int .u32 0,.int .u32 0,.int .u32 0,.int .u32 0]:=rfl
theorem Xy(f:Nat->Nat)(n v:Nat):(gU f).setIfInBounds n (.int .u32 v)=gU (fun i=>if i=n then v else f i):=by
 apply Array.ext
 ·simp[gU]
 intro i h1 h2
 have h3:i<64:=by simpa[gU] using h2
 rw[uL (by simpa[gU] using h3)]
 by_cases e:n=i
 ·subst e;simp[gU]
 have e':¬i=n:=fun h=>e h.symm
 simp[gU,e,e']
theorem Mr(f:Nat->Nat):(gU f).all (·.oneCell')=true:=by simp[gU,Value.oneCell']
theorem Ri(f g:Nat->Nat)(h:∀i,i<64->f i=g i):gU f=gU g:=by
 unfold gU
 congr 1
 apply qR;intro i hi;rw[h i (kS.1 hi)]
structure Bz(b:Nat->Nat)(w:aj)(n:Nat)(wr:aj):Prop where
 bytes:wr.heap[w.heap.size]?=some (.cells (fJ b) 320 (0,0))
 res:wr.heap[w.heap.size+1]?=some (.cells (gU fun _=>0) 412 (0,0))
 words:wr.heap[w.heap.size+1+1]?=some (.cells (gU (Sha.upTo b n)) 412 (0,0))
 below:Below w.heap.size w wr
theorem Bz.start(b:Nat->Nat)(w:aj):Bz b w 0 (((w.alloc (.cells (fJ b) 320)).alloc (.cells (gU fun _=>0) 412)).alloc (.cells (gU fun _=>0) 412)) where
 bytes:=by rw[aZ _ _ _ (by simp;omega),aZ _ _ _ (by simp)];exact aW _ _ _ rfl
 res:=by rw[aZ _ _ _ (by simp)];exact aW _ _ _ (by simp)
 words:=aW _ _ _ (by simp)
 below:=(((au _ _).alloc (ai _) _).alloc (by simp) _).alloc (by simp;omega) _
variable {b:Nat->Nat}{w wr:aj}{n:Nat}
theorem Bz.step(h:Bz b w n wr)(v:Int)(hv:v=((Sha.word b n:Nat):Int)):
  Bz b w (n+1) (wr.setCell ⟨w.heap.size+1+1,n,none⟩ (.int .u32 v)) where
 bytes:=by rw[iP (by simp;omega)];exact h.bytes
 res:=by rw[iP (by simp)];exact h.res
 words:=by
  subst hv;rw[xY h.words,Xy]
  have e:(fun i=>if i=n then Sha.word b n else Sha.upTo b n i)=Sha.upTo b (n+1):=by
   funext i
   by_cases e:i=n
   ·subst e;rw[aD rfl];rfl
   rw[ax e];show _=(if i=n then _ else Sha.upTo b n i);rw[ax e]
  rw[e]
 below:=h.below.setCell (by simp;omega) _
theorem Bz.drew(h:Bz b w n wr):Bz b w n wr.drew:=⟨h.bytes,h.res,h.words,h.below.drew⟩
theorem Xl(b:Nat->Nat)(hb:∀i,b i<256)(w:aj):
  Calls Tryz.prog 277 #[.agg (fJ b)] w fun e w'=>e=.returned (.agg (gU (Sha.word b)))/\Below w.heap.size w w':=by
 have hsz:=jy b;have H0:=Bz.start b w;have HB:=aP hb;clear hb
 go_enter Tryz.func277,Tryz.ntmps277
 go_wp2
 rw[<-IA]
 go_loopw [8] (fun i wr=>∃n:Nat,n<=16/\i=.int .i64 n/\Bz b w n wr) (fun i _=>16-(intOf i).toNat)
 case atStart=>exact⟨0,by omega,rfl,H0⟩
 case round=>
  obtain⟨n,hn,rfl,hm⟩:=hrel;have HM:=aP hm;clear hm H0
  by_cases hlt:n<16
  ·have c0:wr.cell? ⟨w.heap.size,(4*(n:Int)).toNat,none⟩=some (.int .u8 (b (4*n))):=by rw[show(4*(n:Int)).toNat=4*n by omega,bZ HM.out.bytes];exact qH _ _ (by omega)
   have c1:wr.cell? ⟨w.heap.size,(4*(n:Int)+1).toNat,none⟩=some (.int .u8 (b (4*n+1))):=by rw[show(4*(n:Int)+1).toNat=4*n+1 by omega,bZ HM.out.bytes];exact qH _ _ (by omega)
   have c2:wr.cell? ⟨w.heap.size,(4*(n:Int)+2).toNat,none⟩=some (.int .u8 (b (4*n+2))):=by rw[show(4*(n:Int)+2).toNat=4*n+2 by omega,bZ HM.out.bytes];exact qH _ _ (by omega)
   have c3:wr.cell? ⟨w.heap.size,(4*(n:Int)+3).toNat,none⟩=some (.int .u8 (b (4*n+3))):=by rw[show(4*(n:Int)+3).toNat=4*n+3 by omega,bZ HM.out.bytes];exact qH _ _ (by omega)
   have cw:∃v,wr.cell? ⟨w.heap.size+1+1,n,none⟩=some (.int .u32 v):=⟨_,by rw[bZ HM.out.words];exact CG _ _ (by omega)⟩;obtain⟨v,cw⟩:=cw;have fw:wr.frozen? ⟨w.heap.size+1+1,n,none⟩=false:=iG HM.out.words
   have hkeep:∀v o,(wr.setCell ⟨w.heap.size+1+1,n,none⟩ v).cell? ⟨w.heap.size,o,none⟩=wr.cell? ⟨w.heap.size,o,none⟩:=fun v o=>qm _ _ _ _ (by simp)
   have i0:(0:Int)<=(n:Int):=by omega
   have i1:(n:Int)<16:=by omega
   have j0:(0:Int)<=4*(n:Int):=by omega
   have j1:4*(n:Int)<64:=by omega
   have j2:(0:Int)<=4*(n:Int)+1:=by omega
   have j3:4*(n:Int)+1<64:=by omega
   have j4:(0:Int)<=4*(n:Int)+2:=by omega
   have j5:4*(n:Int)+2<64:=by omega
   have j6:(0:Int)<=4*(n:Int)+3:=by omega
   have j7:4*(n:Int)+3<64:=by omega
   have j8:(n:Int)<64:=by omega
   have k0:IntKind.i64.wrap (4*(n:Int))=4*(n:Int):=by rw[gH];omega
   have k1:IntKind.i64.wrap (4*(n:Int)+1)=4*(n:Int)+1:=by rw[gH];omega
   have k2:IntKind.i64.wrap (4*(n:Int)+2)=4*(n:Int)+2:=by rw[gH];omega
   have k3:IntKind.i64.wrap (4*(n:Int)+3)=4*(n:Int)+3:=by rw[gH];omega
   go_wp2
   go_region_held3 (fun w'=>w'.cell? ⟨w.heap.size,(4*(n:Int)).toNat,none⟩=some (.int .u8 (b (4*n)))/\w'.cell? ⟨w.heap.size,(4*(n:Int)+1).toNat,none⟩=some (.int .u8 (b (4*n+1)))/\w'.cell? ⟨w.heap.size,(4*(n:Int)+2).toNat,none⟩=some (.int .u8 (b (4*n+2)))/\w'.cell? ⟨w.heap.size,(4*(n:Int)+3).toNat,none⟩=some (.int .u8 (b (4*n+3)))) (simp[hkeep,c0,c1,c2,c3]) (fail)
   go_wp2
   go_roundw
   case rel=>exact⟨n+1,by omega,by go_num,(HM.out.step _ (by rw[Sha.or4 _ _ _ _ (HB.out _) (HB.out _) (HB.out _) (HB.out _),Sha.UW b n hlt])).drew⟩
   case measure=>simp[intOf];omega
  obtain rfl:n=16:=by omega
  obtain⟨wo,rfl⟩:∃wo:aj,wo=wr:=⟨_,rfl⟩
  go_wp2
  go_loopw [5] (fun i wr=>∃m:Nat,16<=m/\m<=64/\i=.int .i64 m/\Bz b w m wr) (fun i _=>64-(intOf i).toNat)
  case atStart=>exact⟨16,by omega,by omega,rfl,HM.out⟩
  case round=>
   clear HM;obtain⟨m,alI,hm,rfl,hmem⟩:=hrel;have HM:=aP hmem;clear hmem
   by_cases hlt:m<64
   ·have row:∀j,j<m->wr.cell? ⟨w.heap.size+1+1,j,none⟩=some (.int .u32 (Sha.word b j)):=fun j hj=>by rw[bZ HM.out.words,CG _ _ (by omega),Sha.zW b m j hj]
    have d15:wr.cell? ⟨w.heap.size+1+1,((m:Int)-15).toNat,none⟩=some (.int .u32 (Sha.word b (m-15))):=by rw[show((m:Int)-15).toNat=m-15 by omega];exact row _ (by omega)
    have d2:wr.cell? ⟨w.heap.size+1+1,((m:Int)-2).toNat,none⟩=some (.int .u32 (Sha.word b (m-2))):=by rw[show((m:Int)-2).toNat=m-2 by omega];exact row _ (by omega)
    have d16:wr.cell? ⟨w.heap.size+1+1,((m:Int)-16).toNat,none⟩=some (.int .u32 (Sha.word b (m-16))):=by rw[show((m:Int)-16).toNat=m-16 by omega];exact row _ (by omega)
    have d7:wr.cell? ⟨w.heap.size+1+1,((m:Int)-7).toNat,none⟩=some (.int .u32 (Sha.word b (m-7))):=by rw[show((m:Int)-7).toNat=m-7 by omega];exact row _ (by omega)
    have cw:∃v,wr.cell? ⟨w.heap.size+1+1,m,none⟩=some (.int .u32 v):=⟨_,by rw[bZ HM.out.words];exact CG _ _ (by omega)⟩;obtain⟨v,cw⟩:=cw;have fw:wr.frozen? ⟨w.heap.size+1+1,m,none⟩=false:=iG HM.out.words;clear row
    have alC:∀v,(wr.setCell ⟨w.heap.size+1+1,m,none⟩ v).cell? ⟨w.heap.size+1+1,((m:Int)-16).toNat,none⟩=some (.int .u32 (Sha.word b (m-16))):=fun v=>by rw[qm _ _ _ _ (by intro h;injection h;omega)];exact d16
    have hk7:∀v,(wr.setCell ⟨w.heap.size+1+1,m,none⟩ v).cell? ⟨w.heap.size+1+1,((m:Int)-7).toNat,none⟩=some (.int .u32 (Sha.word b (m-7))):=fun v=>by rw[qm _ _ _ _ (by intro h;injection h;omega)];exact d7
    have i0:(0:Int)<=(m:Int):=by omega
    have i1:(m:Int)<64:=by omega
    have j0:(0:Int)<=(m:Int)-15:=by omega
    have j1:(m:Int)-15<64:=by omega
    have j2:(0:Int)<=(m:Int)-2:=by omega
    have j3:(m:Int)-2<64:=by omega
    have j4:(0:Int)<=(m:Int)-16:=by omega
    have j5:(m:Int)-16<64:=by omega
    have j6:(0:Int)<=(m:Int)-7:=by omega
    have j7:(m:Int)-7<64:=by omega
    have k0:IntKind.i64.wrap ((m:Int)-15)=(m:Int)-15:=by rw[gH];omega
    have k1:IntKind.i64.wrap ((m:Int)-2)=(m:Int)-2:=by rw[gH];omega
    have k2:IntKind.i64.wrap ((m:Int)-16)=(m:Int)-16:=by rw[gH];omega
    have k3:IntKind.i64.wrap ((m:Int)-7)=(m:Int)-7:=by rw[gH];omega
    have g15:(15:Int)<=(m:Int):=by omega
    have g2:(2:Int)<=(m:Int):=by omega
    have g16:(16:Int)<=(m:Int):=by omega
    have g7:(7:Int)<=(m:Int):=by omega
    have n15:15<=m:=by omega
    have n2:2<=m:=by omega
    have n7:7<=m:=by omega
    have l15:Sha.word b (m-15)<4294967296:=Sha.word_lt b HB.out _;have l2:Sha.word b (m-2)<4294967296:=Sha.word_lt b HB.out _
    go_wp2
    go_region_held3 (fun w'=>w'.cell? ⟨w.heap.size+1+1,((m:Int)-15).toNat,none⟩=some (.int .u32 (Sha.word b (m-15)))/\w'.cell? ⟨w.heap.size+1+1,((m:Int)-2).toNat,none⟩=some (.int .u32 (Sha.word b (m-2)))) (go_keep) (fail)
    go_wp2_with fail
    refine(ajc _ _ l15).mono ?_;rintro e w' ⟨rfl,rfl⟩
    go_wp2_with fail
    refine(agt _ _ l15).mono ?_;rintro e w' ⟨rfl,rfl⟩
    go_wp2_with fail
    refine(ags _ _ l2).mono ?_;rintro e w' ⟨rfl,rfl⟩
    go_wp2_with fail
    refine(agu _ _ l2).mono ?_;rintro e w' ⟨rfl,rfl⟩
    go_wp2_with fail
    rw[Sha.agl _ l15,Sha.agm _ l2]
    go_region_held3 (fun w'=>w'.cell? ⟨w.heap.size+1+1,((m:Int)-16).toNat,none⟩=some (.int .u32 (Sha.word b (m-16)))/\w'.cell? ⟨w.heap.size+1+1,((m:Int)-7).toNat,none⟩=some (.int .u32 (Sha.word b (m-7)))) (simp[alC,hk7,d16,d7]) (fail)
    go_wp2
    go_roundw
    case rel=>
     have hv:=(Sha.abp (Sha.word b (m-16)) (Sha.s0 (Sha.word b (m-15))) (Sha.word b (m-7)) (Sha.s1 (Sha.word b (m-2)))).trans (gW (fun x:Nat=>(x:Int)) (Sha.Pg b m alI).symm)
     first
      |exact⟨m+1,by omega,by omega,by go_num,(HM.out.step _ hv).drew.drew⟩
      | ((repeat apply Exists.intro);exact⟨⟨m+1,by omega,by omega,by go_num,(HM.out.step _ hv).drew.drew⟩,rfl⟩)
    case measure=>simp[intOf];omega
   obtain rfl:m=64:=by omega
   have hwz:=yO (Sha.upTo b 64);have aiQ:=yO (fun _=>0)
   have hinf:(Tryz.prog.info? 412).map (·.size)=some 64:=by kernel_rfl
   go_wp2_with (first
    | (refine gJ rfl 412 _ rfl (w.heap.size+1+1) rfl 412 _ (0,0) _ HM.out.words Tryz.underlying412 rfl (by rw[hwz];exact hinf) ?_)
    | (refine bU rfl 412 _ _ rfl (w.heap.size+1) 0 (gU (Sha.upTo b 64)) rfl rfl (bM HM.out.res 0 _ (by rw[hwz,aiQ];omega)) (by rw[hwz];exact hinf) (Mr _) ?_))
   exact bP (pI Tryz.results277 _ _ (w.heap.size+1) 412 (gU (Sha.upTo b 64)) (0,0) _ rfl (mJ _ _ _ _ _ HM.out.res (by rw[hwz,aiQ])) Tryz.underlying412 rfl (by rw[hwz];exact hinf)) rfl
    ⟨by rw[Ri _ _ (fun i hi=>Sha.zW b 64 i hi)],ji _ _ HM.out.below (by omega)⟩
def oz(f:Nat->Nat):Array Value:=((List.range 8).map fun i=>Value.int .u32 (f i)).toArray
theorem iZ(f:Nat->Nat):(oz f).size=8:=by simp[oz]
theorem Xm(f:Nat->Nat)(i:Nat)(h:i<8):(oz f)[i]?=some (.int .u32 (f i)):=by simp[oz,h]
theorem aee(f:Nat->Nat)(n v:Nat):(oz f).setIfInBounds n (.int .u32 v)=oz (fun i=>if i=n then v else f i):=by
 apply Array.ext
 ·simp[oz]
 intro i h1 h2
 have h3:i<8:=by simpa[oz] using h2
 rw[uL (by simpa[oz] using h3)]
 by_cases e:n=i
 ·subst e;simp[oz]
 have e':¬i=n:=fun h=>e h.symm
 simp[oz,e,e']
theorem Cz(f:Nat->Nat):(oz f).all (·.oneCell')=true:=by simp[oz,Value.oneCell']
theorem OW(f g:Nat->Nat)(h:∀i,i<8->f i=g i):oz f=oz g:=by
 unfold oz
 congr 1
 apply qR;intro i hi;rw[h i (kS.1 hi)]
def Sha.St.get(s:Sha.St):Nat->Nat
 |0=>s.a
 |1=>s.b
 |2=>s.c
 |3=>s.d
 |4=>s.e
 |5=>s.f
 |6=>s.g
 |_=>s.h
theorem Ux:oz (fun _=>0)=#[.int .u32 0,.int .u32 0,.int .u32 0,.int .u32 0,.int .u32 0,.int .u32 0,.int .u32 0,.int .u32 0]:=rfl
theorem aed(s:Sha.St):oz s.get=#[.int .u32 s.a,.int .u32 s.b,.int .u32 s.c,.int .u32 s.d,.int .u32 s.e,.int .u32 s.f,.int .u32 s.g,.int .u32 s.h]:=rfl
theorem abG(s t:Sha.St)(i:Nat)(h:i<8):(Sha.join s t).get i=(s.get i+t.get i) % 4294967296:=by
 match i,h with
 |0,_=>rfl
 |1,_=>rfl
 |2,_=>rfl
 |3,_=>rfl
 |4,_=>rfl
 |5,_=>rfl
 |6,_=>rfl
 |7,_=>rfl
 |n+8,h=>exact absurd h (by omega)
theorem VD(f:Nat->Nat):(fJ f).all (·.oneCell')=true:=by simp[fJ,Value.oneCell']
structure DF(s t:Sha.St)(w:aj)(m:Nat)(wr:aj):Prop where
 st:wr.heap[w.heap.size]?=some (.cells (oz fun j=>if j<m then (s.get j+t.get j) % 4294967296 else s.get j) 319 (0,0))
 res:wr.heap[w.heap.size+1+1]?=some (.cells (oz fun _=>0) 319 (0,0))
 below:Below w.heap.size w wr
variable {s t:Sha.St}
theorem DF.start(h0:wr.heap[w.heap.size]?=some (.cells (oz s.get) 319 (0,0)))(h2:wr.heap[w.heap.size+1+1]?=some (.cells (oz fun _=>0) 319 (0,0)))(hb:Below w.heap.size w wr):DF s t w 0 wr:=
 ⟨h0.trans (by rw[show oz s.get=oz (fun j=>if j<0 then (s.get j+t.get j) % 4294967296 else s.get j) from OW _ _ (fun i _=>by rw[ax (by omega)])]),h2,hb⟩
variable {m:Nat}
theorem DF.step(h:DF s t w m wr)(v:Int)(hv:v=(((s.get m+t.get m) % 4294967296:Nat):Int)):
  DF s t w (m+1) (wr.setCell ⟨w.heap.size,m,none⟩ (.int .u32 v)) where
 st:=by
  subst hv;rw[xY h.st,aee]
  have e:(fun i=>if i=m then (s.get m+t.get m) % 4294967296 else if i<m then (s.get i+t.get i) % 4294967296 else s.get i)=(fun j=>if j<m+1 then (s.get j+t.get j) % 4294967296 else s.get j):=by
   funext i
   by_cases e:i=m
   ·subst e;rw[aD rfl,aD (by omega)]
   rw[ax e]
   by_cases e2:i<m
   ·rw[aD e2,aD (by omega)]
   rw[ax e2,ax (by omega)]
  rw[e]
 res:=by rw[iP (by simp;omega)];exact h.res
 below:=h.below.setCell (by simp) _
theorem ZX(b:Nat->Nat)(hb:∀i,b i<256)(w:aj):
  Calls Tryz.prog 277 #[.agg (fJ b)] w fun e w'=>∃W:Nat->Nat,Hid (W=Sha.word b)/\e=.returned (.agg (gU W))/\Below w.heap.size w w':=
 (Xl b hb w).mono fun _ _ ⟨h1,h2⟩=>⟨_,rfl,h1,h2⟩
theorem adX(K:Nat->Nat)(s:Sha.St)(hs:s.Ok)(b:Nat->Nat)(hb:∀i,b i<256)(w:aj)
  (hK:∀i,i<64->w.cell? ⟨10,i,none⟩=some (.int .u32 (K i))) (hKl:∀i,K i<4294967296):
  Calls Tryz.prog 204 #[.agg (oz s.get),.agg (fJ b)] w fun e w'=>e=.returned (.agg (oz (Sha.mixed K s b).get))/\Below w.heap.size w w':=by
 have hz1:=iZ s.get;have hz2:=jy b
 have SS:(Tryz.prog.info? 320).map (·.size)=some 64:=by kernel_rfl
 have hr1:((w.alloc (.cells (oz s.get) 319)).alloc (.cells (fJ b) 320)).heap[w.heap.size+1]?=some (.cells (fJ b) 320 (0,0)):=aW _ _ _ (by simp)
 go_enter Tryz.func204,Tryz.ntmps204
 go_wp2_with (refine gJ rfl 320 _ rfl (w.heap.size+1) rfl 320 (fJ b) (0,0) _ (by exact(aZ _ _ _ (by simp)).trans hr1) Tryz.underlying320 rfl (by rw[hz2];exact SS) ?_)
 have hb0:Below w.heap.size w (((w.alloc (.cells (oz s.get) 319)).alloc (.cells (fJ b) 320)).alloc (.cells (oz fun _=>0) 319)):=(((au _ _).alloc (ai _) _).alloc (by simp) _).alloc (by simp;omega) _
 have q0:(((w.alloc (.cells (oz s.get) 319)).alloc (.cells (fJ b) 320)).alloc (.cells (oz fun _=>0) 319)).heap[w.heap.size]?=some (.cells (oz s.get) 319 (0,0)):=by rw[aZ _ _ _ (by simp;omega),aZ _ _ _ (by simp)];exact aW _ _ _ rfl
 have q2:(((w.alloc (.cells (oz s.get) 319)).alloc (.cells (fJ b) 320)).alloc (.cells (oz fun _=>0) 319)).heap[w.heap.size+1+1]?=some (.cells (oz fun _=>0) 319 (0,0)):=aW _ _ _ (by simp);rw[<-Ux]
 have hK0:∀i,i<64->(((w.alloc (.cells (oz s.get) 319)).alloc (.cells (fJ b) 320)).alloc (.cells (oz fun _=>0) 319)).cell? ⟨10,i,none⟩=some (.int .u32 (K i)):=fun i hi=>by
  rw[hb0.cell (p:=⟨10,i,none⟩) (aC (hK i hi))];exact hK i hi
 have hgs:10<w.heap.size:=aC (hK 0 (by omega));clear hK hr1;generalize hW0:((w.alloc (.cells (oz s.get) 319)).alloc (.cells (fJ b) 320)).alloc (.cells (oz fun _=>0) 319)=W0 at*
 have hs0:W0.heap.size=w.heap.size+1+1+1:=by rw[<-hW0];simp
 clear hW0;refine(ZX b hb _).mono ?_;rintro e w1 ⟨W,HW,rfl,hb1⟩
 have hs1:w.heap.size+1+1+1<=w1.heap.size:=by have:=hb1.size;omega
 have r0:w1.heap[w.heap.size]?=some (.cells (oz s.get) 319 (0,0)):=by rw[hb1.block _ (by omega)];exact q0
 have r2:w1.heap[w.heap.size+1+1]?=some (.cells (oz fun _=>0) 319 (0,0)):=by rw[hb1.block _ (by omega)];exact q2
 have hK1:∀i,i<64->w1.cell? ⟨10,i,none⟩=some (.int .u32 (K i)):=fun i hi=>by rw[hb1.cell (p:=⟨10,i,none⟩) (by show 10<_;omega)];exact hK0 i hi
 have hB1:Below w.heap.size w w1:=hb0.trans (hb1.mono (by omega));have R0:=aP r0;have R2:=aP r2;have RK:=aP hK1;have RB:=aP hB1;have RS:=aP hs;have RL:=aP hKl;have Rb:=aP hb;clear r0 r2 hK1 hB1 hb1 hb0 q0 q2 hK0 hs0 hs hKl hb W0;have hwz:=yO W
 have i196:(Tryz.prog.info? 412).map (·.size)=some 64:=by kernel_rfl
 go_wp2_with (refine bU rfl 412 _ _ rfl w1.heap.size 0 (gU W) rfl rfl (bM (aW _ _ _ rfl) 0 _ (by rw[hwz];decide)) (by rw[hwz];exact i196) (Mr _) ?_)
 rw[<-IA]
 have P0:Hid (((w1.alloc (.cells (gU fun _=>0) 412)).setCells w1.heap.size 0 (gU W).toList).heap[w.heap.size]?=some (.cells (oz s.get) 319 (0,0))):=by
  show _=_;rw[oM _ _ _ _ _ (by omega),aZ _ _ _ (by omega)];exact R0.out
 have P2:Hid (((w1.alloc (.cells (gU fun _=>0) 412)).setCells w1.heap.size 0 (gU W).toList).heap[w.heap.size+1+1]?=some (.cells (oz fun _=>0) 319 (0,0))):=by
  show _=_;rw[oM _ _ _ _ _ (by omega),aZ _ _ _ (by omega)];exact R2.out
 have P5:Hid (((w1.alloc (.cells (gU fun _=>0) 412)).setCells w1.heap.size 0 (gU W).toList).heap[w1.heap.size]?=some (.cells (gU W) 412 (0,0))):=
  mJ _ _ _ _ _ (aW _ _ _ rfl) (by rw[hwz,yO])
 have PB:Hid (Below w.heap.size w ((w1.alloc (.cells (gU fun _=>0) 412)).setCells w1.heap.size 0 (gU W).toList)):=ji _ _ (RB.out.alloc (by omega) _) (by omega)
 have PK:Hid (∀i,i<64->((w1.alloc (.cells (gU fun _=>0) 412)).setCells w1.heap.size 0 (gU W).toList).cell? ⟨10,i,none⟩=some (.int .u32 (K i))):=fun i hi=>by
  rw[World.cell?_setCells_out _ _ _ _ _ (fun h=>by simp at h;omega),bO _ _ ⟨10,i,none⟩ (by show 10<_;omega)];exact RK.out i hi
 clear R0 R2 RK RB;generalize hW2:(w1.alloc (.cells (gU fun _=>0) 412)).setCells w1.heap.size 0 (gU W).toList=W2 at*;clear hW2
 have c0:W2.cell? ⟨w.heap.size,0,none⟩=some (.int .u32 s.a):=by rw[bZ P0.out];rfl
 have c1:W2.cell? ⟨w.heap.size,1,none⟩=some (.int .u32 s.b):=by rw[bZ P0.out];rfl
 have c2:W2.cell? ⟨w.heap.size,2,none⟩=some (.int .u32 s.c):=by rw[bZ P0.out];rfl
 have c3:W2.cell? ⟨w.heap.size,3,none⟩=some (.int .u32 s.d):=by rw[bZ P0.out];rfl
 have c4:W2.cell? ⟨w.heap.size,4,none⟩=some (.int .u32 s.e):=by rw[bZ P0.out];rfl
 have c5:W2.cell? ⟨w.heap.size,5,none⟩=some (.int .u32 s.f):=by rw[bZ P0.out];rfl
 have c6:W2.cell? ⟨w.heap.size,6,none⟩=some (.int .u32 s.g):=by rw[bZ P0.out];rfl
 have c7:W2.cell? ⟨w.heap.size,7,none⟩=some (.int .u32 s.h):=by rw[bZ P0.out];rfl
 simp only[Act.put]
 go_quiet (fail)
 obtain⟨q1,rfl⟩:∃q1,q1=nq:=⟨_,rfl⟩
 go_wp2
 go_quiet (fail)
 clear c0 c1 c2 c3 c4 c5 c6 c7
 go_wp2_with (refine gJ rfl 412 _ rfl w1.heap.size rfl 412 (gU W) (0,0) _ (by exact P5.out) Tryz.underlying412 rfl (by rw[hwz];exact i196) ?_)
 have Q0:Hid ((W2.drewN (q1+nq)).heap[w.heap.size]?=some (.cells (oz s.get) 319 (0,0))):=P0.out;have Q2:Hid ((W2.drewN (q1+nq)).heap[w.heap.size+1+1]?=some (.cells (oz fun _=>0) 319 (0,0))):=P2.out;have QB:Hid (Below w.heap.size w (W2.drewN (q1+nq))):=below_drewN PB.out _;have QK:Hid (∀i,i<64->(W2.drewN (q1+nq)).cell? ⟨10,i,none⟩=some (.int .u32 (K i))):=PK.out;clear P0 P2 P5 PB PK;generalize hW3:W2.drewN (q1+nq)=W3 at*;clear hW3 q1 nq
 go_loop [6,7,8,9,10,11,12,13,41] (fun a b c d e f g h i=>∃n:Nat,n<=64/\i=.int .i64 n/\∃t:Sha.St,Hid (t=Sha.after K W s n)/\a=.int .u32 t.a/\b=.int .u32 t.b/\c=.int .u32 t.c/\d=.int .u32 t.d/\e=.int .u32 t.e/\f=.int .u32 t.f/\g=.int .u32 t.g/\h=.int .u32 t.h) (fun _ _ _ _ _ _ _ _ i=>64-(intOf i).toNat)
 case atStart=>exact⟨0,by omega,rfl,s,rfl,rfl,rfl,rfl,rfl,rfl,rfl,rfl,rfl⟩
 case round=>
  obtain⟨n,hn,rfl,t,HT,rfl,rfl,rfl,rfl,rfl,rfl,rfl,rfl⟩:=hrel
  have ht:t.Ok:=by rw[HT.out];exact Sha.RJ K W s RS.out n
  by_cases hlt:n<64
  ·have kc:=QK.out n hlt
   have hidx:∀wx,(Instr.index 412 (.agg (gU W)) (.int .i64 n)).run Tryz.prog wx=.ok (.int .u32 (W n)) wx:=by
    intro wx
    simp[Instr.index,go_sem,CG W n hlt]
    omega
   have i0:(0:Int)<=(n:Int):=by omega
   have i1:(n:Int)<64:=by omega
   have la:=ht.a;have le:=ht.e
   go_wp2_with fail
   refine(ajb _ _ le).mono ?_;rintro e w' ⟨rfl,rfl⟩
   go_wp2_with fail
   refine(agq _ _ le).mono ?_;rintro e w' ⟨rfl,rfl⟩
   go_wp2_with fail
   refine(agw _ _ le).mono ?_;rintro e w' ⟨rfl,rfl⟩
   go_wp2_with fail
   refine(aja _ _ la).mono ?_;rintro e w' ⟨rfl,rfl⟩
   go_wp2_with fail
   refine(agr _ _ la).mono ?_;rintro e w' ⟨rfl,rfl⟩
   go_wp2_with fail
   refine(agv _ _ la).mono ?_;rintro e w' ⟨rfl,rfl⟩
   go_wp2
   rw[Sha.afA _ ht.e,Sha.afz _ ht.a,Sha.afF _ _ _ ht.e ht.f ht.g,Sha.adV _ _ _ ht.a ht.b ht.c,Sha.ad8 (K n) (W n) t,Sha.ad9 (K n) (W n) t];refine⟨⟨n+1,by omega,by go_num,Sha.round (K n) (W n) t,?_,rfl,rfl,rfl,rfl,rfl,rfl,rfl,rfl⟩,?_⟩
   ·show _=Sha.round (K n) (W n) (Sha.after K W s n);rw[HT.out]
   simp[intOf];omega
  obtain rfl:n=64:=by omega
  go_wp2
  rw[<-aed t];clear QK RL Rb;have RT:=aP ht;clear ht
  go_loopw [115] (fun i wr=>∃m:Nat,m<=8/\i=.int .i64 m/\DF s t w m wr) (fun i _=>8-(intOf i).toNat)
  case atStart=>exact⟨0,by omega,rfl,DF.start Q0.out Q2.out QB.out⟩
  case round=>
   clear Q0 Q2 QB;obtain⟨m,hm,rfl,hmem⟩:=hrel;have HM:=aP hmem;clear hmem
   by_cases hlt:m<8
   ·have kc:wr.cell? ⟨w.heap.size,m,none⟩=some (.int .u32 (s.get m)):=by
     rw[bZ HM.out.st,Xm _ m hlt,ax (by omega)]
    have fz:wr.frozen? ⟨w.heap.size,m,none⟩=false:=iG HM.out.st
    have hidx:∀wx,(Instr.index 319 (.agg (oz t.get)) (.int .i64 m)).run Tryz.prog wx=.ok (.int .u32 (t.get m)) wx:=by
     intro wx
     simp[Instr.index,go_sem,Xm t.get m hlt]
     omega
    have i0:(0:Int)<=(m:Int):=by omega
    have i1:(m:Int)<8:=by omega
    go_wp2
    go_roundw
    case rel=>
     first
      |exact⟨m+1,by omega,by go_num,HM.out.step _ (by omega)⟩
      | ((repeat apply Exists.intro);exact⟨⟨m+1,by omega,by go_num,HM.out.step _ (by omega)⟩,rfl⟩)
    case measure=>simp[intOf];omega
   obtain rfl:m=8:=by omega
   have hy1:=iZ (fun j=>if j<8 then (s.get j+t.get j) % 4294967296 else s.get j);have hy2:=iZ (fun _=>0)
   have i131:(Tryz.prog.info? 319).map (·.size)=some 8:=by kernel_rfl
   go_wp2_with (first
    | (refine gJ rfl 319 _ rfl w.heap.size rfl 319 _ (0,0) _ HM.out.st Tryz.underlying319 rfl (by rw[hy1];exact i131) ?_)
    | (refine bU rfl 319 _ _ rfl (w.heap.size+1+1) 0 (oz fun j=>if j<8 then (s.get j+t.get j) % 4294967296 else s.get j) rfl rfl (bM HM.out.res 0 _ (by rw[hy1,hy2];omega)) (by rw[hy1];exact i131) (Cz _) ?_))
   refine bP (pI Tryz.results204 _ _ (w.heap.size+1+1) 319 (oz fun j=>if j<8 then (s.get j+t.get j) % 4294967296 else s.get j) (0,0) _ rfl (mJ _ _ _ _ _ HM.out.res (by rw[hy1,hy2])) Tryz.underlying319 rfl (by rw[hy1];exact i131)) rfl
    ⟨?_,ji _ _ HM.out.below (by omega)⟩
   have hfin:(Sha.mixed K s b)=Sha.join s t:=by unfold Sha.mixed;rw[HT.out,HW.out]
   rw[hfin,OW _ (Sha.join s t).get (fun i hi=>by rw[aD hi,abG s t i hi])]
def kG(f:Nat->Nat):Array Value:=((List.range 32).map fun i=>Value.int .u8 (f i)).toArray
theorem sU(f:Nat->Nat):(kG f).size=32:=by simp[kG]
theorem Fq(f:Nat->Nat)(i:Nat)(h:i<32):(kG f)[i]?=some (.int .u8 (f i)):=by simp[kG,h]
theorem Fs(f:Nat->Nat)(n v:Nat):(kG f).setIfInBounds n (.int .u8 v)=kG (fun i=>if i=n then v else f i):=by
 apply Array.ext
 ·simp[kG]
 intro i h1 h2
 have h3:i<32:=by simpa[kG] using h2
 rw[uL (by simpa[kG] using h3)]
 by_cases e:n=i
 ·subst e;simp[kG]
 have e':¬i=n:=fun h=>e h.symm
 simp[kG,e,e']
theorem Lb(f:Nat->Nat):(kG f).all (·.oneCell')=true:=by simp[kG,Value.oneCell']
theorem WV(f g:Nat->Nat)(h:∀i,i<32->f i=g i):kG f=kG g:=by
 unfold kG
 congr 1
 apply qR;intro i hi;rw[h i (kS.1 hi)]
theorem Gz:kG (fun _=>0)=#[.int .u8 0,.int .u8 0,.int .u8 0,.int .u8 0,.int .u8 0,.int .u8 0,.int .u8 0,.int .u8 0,.int .u8 0,.int .u8 0,.int .u8 0,.int .u8 0,.int .u8 0,.int .u8 0,.int .u8 0,.int .u8 0,.int .u8 0,.int .u8 0,.int .u8 0,.int .u8 0,.int .u8 0,.int .u8 0,.int .u8 0,.int .u8 0,.int .u8 0,.int .u8 0,.int .u8 0,.int .u8 0,.int .u8 0,.int .u8 0,.int .u8 0,.int .u8 0]:=rfl
def Sha.St.byte(s:Sha.St)(j:Nat):Nat:=s.get (j/4)/2 ^ (24-8*(j % 4)) % 256
structure JC(s:Sha.St)(w:aj)(m:Nat)(wr:aj):Prop where
 out:∃f,wr.heap[w.heap.size+1+1]?=some (.cells (kG f) 217 (0,0))/\∀j,j<4*m->f j=s.byte j
 res:wr.heap[w.heap.size+1]?=some (.cells (kG fun _=>0) 217 (0,0))
 below:Below w.heap.size w wr
theorem JC.step(h:JC s w m wr)(v0 v1 v2 v3:Int)
  (h0:v0=((s.get m/16777216 % 256:Nat):Int)) (h1:v1=((s.get m/65536 % 256:Nat):Int)) (h2:v2=((s.get m/256 % 256:Nat):Int)) (h3:v3=((s.get m % 256:Nat):Int))
  (o0 o1 o2 o3:Nat) (e0:o0=4*m) (e1:o1=4*m+1) (e2:o2=4*m+2) (e3:o3=4*m+3):
  JC s w (m+1) ((((wr.setCell ⟨w.heap.size+1+1,o0,none⟩ (.int .u8 v0)).setCell ⟨w.heap.size+1+1,o1,none⟩ (.int .u8 v1)).setCell ⟨w.heap.size+1+1,o2,none⟩ (.int .u8 v2)).setCell ⟨w.heap.size+1+1,o3,none⟩ (.int .u8 v3)) where
 out:=by
  obtain⟨f,hf,hj⟩:=h.out;subst h0 h1 h2 h3 e0 e1 e2 e3;have g0:=eO _ _ (4*m) _ _ (.int .u8 ((s.get m/16777216 % 256:Nat):Int)) hf;rw[Fs] at g0;have g1:=eO _ _ (4*m+1) _ _ (.int .u8 ((s.get m/65536 % 256:Nat):Int)) g0;rw[Fs] at g1;have g2:=eO _ _ (4*m+2) _ _ (.int .u8 ((s.get m/256 % 256:Nat):Int)) g1;rw[Fs] at g2;have g3:=eO _ _ (4*m+3) _ _ (.int .u8 ((s.get m % 256:Nat):Int)) g2;rw[Fs] at g3;refine⟨_,g3,fun j hlt=>?_⟩;unfold Sha.St.byte
  by_cases c3:j=4*m+3
  ·subst c3
   rw[aD rfl,show(4*m+3)/4=m by omega,show(4*m+3) % 4=3 by omega];try simp
  rw[ax c3]
  by_cases c2:j=4*m+2
  ·subst c2;rw[aD rfl,show(4*m+2)/4=m by omega,show(4*m+2) % 4=2 by omega]
  rw[ax c2]
  by_cases c1:j=4*m+1
  ·subst c1;rw[aD rfl,show(4*m+1)/4=m by omega,show(4*m+1) % 4=1 by omega]
  rw[ax c1]
  by_cases c0:j=4*m
  ·subst c0;rw[aD rfl,show(4*m)/4=m by omega,show(4*m) % 4=0 by omega]
  rw[ax c0,hj j (by omega)];rfl
 res:=by
  rw[iP (by simp),iP (by simp),iP (by simp),iP (by simp)];exact h.res
 below:=(((h.below.setCell (by simp;omega) _).setCell (by simp;omega) _).setCell (by simp;omega) _).setCell (by simp;omega) _
theorem LX(s:Sha.St)(hs:s.Ok)(w:aj):
  Calls Tryz.prog 205 #[.agg (oz s.get)] w fun e w'=>e=.returned (.agg (kG s.byte))/\Below w.heap.size w w':=by
 have hz1:=iZ s.get
 have i131:(Tryz.prog.info? 319).map (·.size)=some 8:=by kernel_rfl
 have RS:=aP hs;clear hs
 have hr1:((w.alloc (.cells (oz s.get) 319)).alloc (.cells (kG fun _=>0) 217)).heap[w.heap.size]?=some (.cells (oz s.get) 319 (0,0)):=by rw[aZ _ _ _ (by simp)];exact aW _ _ _ rfl
 have M0:Hid (JC s w 0 (((w.alloc (.cells (oz s.get) 319)).alloc (.cells (kG fun _=>0) 217)).alloc (.cells (kG fun _=>0) 217))):=
  ⟨⟨_,aW _ _ _ (by simp),fun j h=>by omega⟩,by rw[aZ _ _ _ (by simp)];exact aW _ _ _ (by simp),(((au _ _).alloc (ai _) _).alloc (by simp) _).alloc (by simp;omega) _⟩
 have HR:Hid ((((w.alloc (.cells (oz s.get) 319)).alloc (.cells (kG fun _=>0) 217)).alloc (.cells (kG fun _=>0) 217)).heap[w.heap.size]?=some (.cells (oz s.get) 319 (0,0))):=by
  show _=_;rw[aZ _ _ _ (by simp;omega)];exact hr1
 clear hr1
 go_enter Tryz.func205,Tryz.ntmps205
 go_wp2_with (refine gJ rfl 319 _ rfl w.heap.size rfl 319 (oz s.get) (0,0) _ (by exact HR.out) Tryz.underlying319 rfl (by rw[hz1];exact i131) ?_)
 rw[<-Gz]
 go_loopw [7] (fun i wr=>∃m:Nat,m<=8/\i=.int .i64 m/\JC s w m wr) (fun i _=>8-(intOf i).toNat)
 case atStart=>exact⟨0,by omega,rfl,M0.out⟩
 case round=>
  clear M0 HR;obtain⟨m,hm,rfl,hmem⟩:=hrel;have HM:=aP hmem;clear hmem
  by_cases hlt:m<8
  ·obtain⟨f,hf,hj⟩:=HM.out.out
   have hidx:∀wx,(Instr.index 319 (.agg (oz s.get)) (.int .i64 m)).run Tryz.prog wx=.ok (.int .u32 (s.get m)) wx:=by
    intro wx
    simp[Instr.index,go_sem,Xm s.get m hlt]
    omega
   have c0:∃v,wr.cell? ⟨w.heap.size+1+1,4*m,none⟩=some v:=⟨_,by rw[bZ hf];exact Fq _ _ (by omega)⟩;have c1:∃v,wr.cell? ⟨w.heap.size+1+1,4*m+1,none⟩=some v:=⟨_,by rw[bZ hf];exact Fq _ _ (by omega)⟩;have c2:∃v,wr.cell? ⟨w.heap.size+1+1,4*m+2,none⟩=some v:=⟨_,by rw[bZ hf];exact Fq _ _ (by omega)⟩;have c3:∃v,wr.cell? ⟨w.heap.size+1+1,4*m+3,none⟩=some v:=⟨_,by rw[bZ hf];exact Fq _ _ (by omega)⟩;obtain⟨v0,c0⟩:=c0;obtain⟨v1,c1⟩:=c1;obtain⟨v2,c2⟩:=c2;obtain⟨v3,c3⟩:=c3
   have fz:∀o,wr.frozen? ⟨w.heap.size+1+1,o,none⟩=false:=fun o=>iG hf
   clear hf hj
   have i0:(0:Int)<=(m:Int):=by omega
   have i1:(m:Int)<8:=by omega
   go_wp2
   go_roundw
   case rel=>
    first
     |exact⟨m+1,by omega,by go_num,HM.out.step _ _ _ _ (by omega) (by omega) (by omega) (by omega) _ _ _ _ rfl rfl rfl rfl⟩
     | ((repeat apply Exists.intro);exact⟨⟨m+1,by omega,by go_num,HM.out.step _ _ _ _ (by omega) (by omega) (by omega) (by omega) _ _ _ _ rfl rfl rfl rfl⟩,rfl⟩)
   case measure=>simp[intOf];omega
  obtain rfl:m=8:=by omega
  obtain⟨f,hf,hj⟩:=HM.out.out;have HF:=aP hf;have HJ:=aP hj;clear hf hj;have hy1:=sU f;have hy2:=sU (fun _=>0)
  have i67:(Tryz.prog.info? 217).map (·.size)=some 32:=by kernel_rfl
  go_wp2_with (first
   | (refine gJ rfl 217 _ rfl (w.heap.size+1+1) rfl 217 _ (0,0) _ HF.out Tryz.underlying217 rfl (by rw[hy1];exact i67) ?_)
   | (refine bU rfl 217 _ _ rfl (w.heap.size+1) 0 (kG f) rfl rfl (bM HM.out.res 0 _ (by rw[hy1,hy2];omega)) (by rw[hy1];exact i67) (Lb _) ?_))
  refine bP (pI Tryz.results205 _ _ (w.heap.size+1) 217 (kG f) (0,0) _ rfl (mJ _ _ _ _ _ HM.out.res (by rw[hy1,hy2])) Tryz.underlying217 rfl (by rw[hy1];exact i67)) rfl
   ⟨?_,ji _ _ HM.out.below (by omega)⟩
  rw[WV f s.byte (fun i hi=>HJ.out i (by omega))]
