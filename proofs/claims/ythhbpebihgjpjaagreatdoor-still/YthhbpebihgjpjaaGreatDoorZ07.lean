import Derived.Test.YthhbpebihgjpjaaGreatDoorZ06
import Derived.Test.YthhbpebihgjpjaaGreatDoorZ02
import Derived.BigQuiet
import Derived.Deep.RegionHeld3
namespace Go.Proofs.YthhbpebihgjpjaaGreatDoor
set_option maxRecDepth 1000000
set_option maxHeartbeats 20000000
set_option linter.all false
section
open Go.RowKit
def fT(b:Nat->Nat):Array Value:=((List.range 64).map fun i=>Value.int .u8 (b i)).toArray
def gZ(f:Nat->Nat):Array Value:=((List.range 64).map fun i=>Value.int .u32 (f i)).toArray
theorem jD(b:Nat->Nat):(fT b).size=64:=by simp[fT]
theorem yQ(b:Nat->Nat):(gZ b).size=64:=by simp[gZ]
theorem qL(b:Nat->Nat)(i:Nat)(h:i<64):(fT b)[i]?=some (.int .u8 (b i)):=by simp[fT,h]
theorem CK(b:Nat->Nat)(i:Nat)(h:i<64):(gZ b)[i]?=some (.int .u32 (b i)):=by simp[gZ,h]
theorem IB:gZ (fun _=>0)=#[.int .u32 0,.int .u32 0,.int .u32 0,.int .u32 0,.int .u32 0,.int .u32 0,.int .u32 0,.int .u32 0,.int .u32 0,.int .u32 0,.int .u32 0,.int .u32 0,.int .u32 0,.int .u32 0,.int .u32 0,.int .u32 0,.int .u32 0,.int .u32 0,.int .u32 0,.int .u32 0,.int .u32 0,.int .u32 0,.int .u32 0,.int .u32 0,.int .u32 0,.int .u32 0,.int .u32 0,.int .u32 0,.int .u32 0,.int .u32 0,.int .u32 0,.int .u32 0,.int .u32 0,.int .u32 0,.int .u32 0,.int .u32 0,.int .u32 0,.int .u32 0,.int .u32 0,.int .u32 0,.int .u32 0,.int .u32 0,.int .u32 0,.int .u32 0,.int .u32 0,.int .u32 0,.int .u32 0,.int .u32 0,.int .u32 0,.int .u32 0,.int .u32 0,.int .u32 0,.int .u32 0,.int .u32 0,.int .u32 0,.int .u32 0,.int .u32 0,.int .u32 0,.int .u32 0,.int .u32 0,.int .u32 0,.int .u32 0,.int .u32 0,.int .u32 0]:=rfl
theorem Xz(f:Nat->Nat)(n v:Nat):(gZ f).setIfInBounds n (.int .u32 v)=gZ (fun i=>if i=n then v else f i):=by
 apply Array.ext
 ·simp[gZ]
 intro i h1 h2
 have h3:i<64:=by simpa[gZ] using h2
 rw[uO (by simpa[gZ] using h3)]
 by_cases e:n=i
 ·subst e;simp[gZ]
 have e':¬i=n:=fun h=>e h.symm
 simp[gZ,e,e']
theorem Mr(f:Nat->Nat):(gZ f).all (·.oneCell')=true:=by simp[gZ,Value.oneCell']
theorem Rk(f g:Nat->Nat)(h:∀i,i<64->f i=g i):gZ f=gZ g:=by
 unfold gZ
 congr 1
 apply qX;intro i hi;rw[h i (kW.1 hi)]
structure BD(b:Nat->Nat)(w:ak)(n:Nat)(wr:ak):Prop where
 bytes:wr.heap[w.heap.size]?=some (.cells (fT b) 320 (0,0))
 res:wr.heap[w.heap.size+1]?=some (.cells (gZ fun _=>0) 412 (0,0))
 words:wr.heap[w.heap.size+1+1]?=some (.cells (gZ (Sha.upTo b n)) 412 (0,0))
 below:Below w.heap.size w wr
theorem BD.start(b:Nat->Nat)(w:ak):BD b w 0 (((w.alloc (.cells (fT b) 320)).alloc (.cells (gZ fun _=>0) 412)).alloc (.cells (gZ fun _=>0) 412)) where
 bytes:=by rw[bC _ _ _ (by simp;omega),bC _ _ _ eB];exact bq _ _ _ rfl
 res:=by rw[bC _ _ _ eB];exact bq _ _ _ eB
 words:=bq _ _ _ eB
 below:=(((ay _ _).alloc (ai _) _).alloc eB _).alloc (by simp;omega) _
variable {b:Nat->Nat}{w wr:ak}{n:Nat}
theorem BD.step(h:BD b w n wr)(v:Int)(hv:v=((Sha.word b n:Nat):Int)):
  BD b w (n+1) (wr.setCell ⟨w.heap.size+1+1,n,none⟩ (.int .u32 v)) where
 bytes:=by rw[au _ _ _ _ (by simp;omega)];exact h.bytes
 res:=by rw[au _ _ _ _ eB];exact h.res
 words:=by
  subst hv;rw[aR _ _ _ _ _ _ h.words,Xz]
  have e:(fun i=>if i=n then Sha.word b n else Sha.upTo b n i)=Sha.upTo b (n+1):=by
   funext i
   by_cases e:i=n
   ·subst e;rw[aH rfl];rfl
   rw[aA e];show _=(if i=n then _ else Sha.upTo b n i);rw[aA e]
  rw[e]
 below:=h.below.setCell (by simp;omega) _
theorem BD.drew(h:BD b w n wr):BD b w n wr.drew:=⟨h.bytes,h.res,h.words,h.below.drew⟩
theorem Xm(b:Nat->Nat)(hb:∀i,b i<256)(w:ak):
  Calls Tryz.prog 277 #[.agg (fT b)] w fun e w'=>e=.returned (.agg (gZ (Sha.word b)))/\Below w.heap.size w w':=by
 have hsz:=jD b;have H0:=BD.start b w;have HB:=aV hb;clear hb
 go_enter Tryz.func277,Tryz.ntmps277
 go_wp2
 rw[<-IB]
 go_loopw [8] (fun i wr=>∃n:Nat,n<=16/\i=.int .i64 n/\BD b w n wr) (fun i _=>16-(intOf i).toNat)
 case atStart=>exact⟨0,aJ,rfl,H0⟩
 case round=>
  obtain⟨n,hn,rfl,hm⟩:=hrel;have HM:=aV hm;clear hm H0
  by_cases hlt:n<16
  ·have c0:wr.cell? ⟨w.heap.size,(4*(n:Int)).toNat,none⟩=some (.int .u8 (b (4*n))):=by rw[show(4*(n:Int)).toNat=4*n by omega,aj _ _ _ _ _ _ HM.out.bytes];exact qL _ _ aJ
   have c1:wr.cell? ⟨w.heap.size,(4*(n:Int)+1).toNat,none⟩=some (.int .u8 (b (4*n+1))):=by rw[show(4*(n:Int)+1).toNat=4*n+1 by omega,aj _ _ _ _ _ _ HM.out.bytes];exact qL _ _ aJ
   have c2:wr.cell? ⟨w.heap.size,(4*(n:Int)+2).toNat,none⟩=some (.int .u8 (b (4*n+2))):=by rw[show(4*(n:Int)+2).toNat=4*n+2 by omega,aj _ _ _ _ _ _ HM.out.bytes];exact qL _ _ aJ
   have c3:wr.cell? ⟨w.heap.size,(4*(n:Int)+3).toNat,none⟩=some (.int .u8 (b (4*n+3))):=by rw[show(4*(n:Int)+3).toNat=4*n+3 by omega,aj _ _ _ _ _ _ HM.out.bytes];exact qL _ _ aJ
   have cw:∃v,wr.cell? ⟨w.heap.size+1+1,n,none⟩=some (.int .u32 v):=⟨_,by rw[aj _ _ _ _ _ _ HM.out.words];exact CK _ _ aJ⟩;obtain⟨v,cw⟩:=cw;have fw:wr.frozen? ⟨w.heap.size+1+1,n,none⟩=false:=aD _ _ _ _ _ HM.out.words
   have hkeep:∀v o,(wr.setCell ⟨w.heap.size+1+1,n,none⟩ v).cell? ⟨w.heap.size,o,none⟩=wr.cell? ⟨w.heap.size,o,none⟩:=fun v o=>qp _ _ _ _ eB
   have i0:(0:Int)<=(n:Int):=aJ
   have i1:(n:Int)<16:=aJ
   have j0:(0:Int)<=4*(n:Int):=aJ
   have j1:4*(n:Int)<64:=aJ
   have j2:(0:Int)<=4*(n:Int)+1:=aJ
   have j3:4*(n:Int)+1<64:=aJ
   have j4:(0:Int)<=4*(n:Int)+2:=aJ
   have j5:4*(n:Int)+2<64:=aJ
   have j6:(0:Int)<=4*(n:Int)+3:=aJ
   have j7:4*(n:Int)+3<64:=aJ
   have j8:(n:Int)<64:=aJ
   have k0:IntKind.i64.wrap (4*(n:Int))=4*(n:Int):=by rw[gP];omega
   have k1:IntKind.i64.wrap (4*(n:Int)+1)=4*(n:Int)+1:=by rw[gP];omega
   have k2:IntKind.i64.wrap (4*(n:Int)+2)=4*(n:Int)+2:=by rw[gP];omega
   have k3:IntKind.i64.wrap (4*(n:Int)+3)=4*(n:Int)+3:=by rw[gP];omega
   go_wp2
   go_region_held3 (fun w'=>w'.cell? ⟨w.heap.size,(4*(n:Int)).toNat,none⟩=some (.int .u8 (b (4*n)))/\w'.cell? ⟨w.heap.size,(4*(n:Int)+1).toNat,none⟩=some (.int .u8 (b (4*n+1)))/\w'.cell? ⟨w.heap.size,(4*(n:Int)+2).toNat,none⟩=some (.int .u8 (b (4*n+2)))/\w'.cell? ⟨w.heap.size,(4*(n:Int)+3).toNat,none⟩=some (.int .u8 (b (4*n+3)))) (simp[hkeep,c0,c1,c2,c3]) (fail)
   go_wp2
   go_roundw
   case rel=>exact⟨n+1,aJ,oW,(HM.out.step _ (by rw[Sha.or4 _ _ _ _ (HB.out _) (HB.out _) (HB.out _) (HB.out _),Sha.UY b n hlt])).drew⟩
   case measure=>simp[intOf];omega
  obtain rfl:n=16:=aJ
  obtain⟨wo,rfl⟩:∃wo:ak,wo=wr:=⟨_,rfl⟩
  go_wp2
  go_loopw [5] (fun i wr=>∃m:Nat,16<=m/\m<=64/\i=.int .i64 m/\BD b w m wr) (fun i _=>64-(intOf i).toNat)
  case atStart=>exact⟨16,aJ,aJ,rfl,HM.out⟩
  case round=>
   clear HM;obtain⟨m,alI,hm,rfl,hmem⟩:=hrel;have HM:=aV hmem;clear hmem
   by_cases hlt:m<64
   ·have row:∀j,j<m->wr.cell? ⟨w.heap.size+1+1,j,none⟩=some (.int .u32 (Sha.word b j)):=fun j hj=>by rw[aj _ _ _ _ _ _ HM.out.words,CK _ _ aJ,Sha.zY b m j hj]
    have d15:wr.cell? ⟨w.heap.size+1+1,((m:Int)-15).toNat,none⟩=some (.int .u32 (Sha.word b (m-15))):=by rw[show((m:Int)-15).toNat=m-15 by omega];exact row _ aJ
    have d2:wr.cell? ⟨w.heap.size+1+1,((m:Int)-2).toNat,none⟩=some (.int .u32 (Sha.word b (m-2))):=by rw[show((m:Int)-2).toNat=m-2 by omega];exact row _ aJ
    have d16:wr.cell? ⟨w.heap.size+1+1,((m:Int)-16).toNat,none⟩=some (.int .u32 (Sha.word b (m-16))):=by rw[show((m:Int)-16).toNat=m-16 by omega];exact row _ aJ
    have d7:wr.cell? ⟨w.heap.size+1+1,((m:Int)-7).toNat,none⟩=some (.int .u32 (Sha.word b (m-7))):=by rw[show((m:Int)-7).toNat=m-7 by omega];exact row _ aJ
    have cw:∃v,wr.cell? ⟨w.heap.size+1+1,m,none⟩=some (.int .u32 v):=⟨_,by rw[aj _ _ _ _ _ _ HM.out.words];exact CK _ _ aJ⟩;obtain⟨v,cw⟩:=cw;have fw:wr.frozen? ⟨w.heap.size+1+1,m,none⟩=false:=aD _ _ _ _ _ HM.out.words;clear row
    have alC:∀v,(wr.setCell ⟨w.heap.size+1+1,m,none⟩ v).cell? ⟨w.heap.size+1+1,((m:Int)-16).toNat,none⟩=some (.int .u32 (Sha.word b (m-16))):=fun v=>by rw[qp _ _ _ _ (by intro h;injection h;omega)];exact d16
    have hk7:∀v,(wr.setCell ⟨w.heap.size+1+1,m,none⟩ v).cell? ⟨w.heap.size+1+1,((m:Int)-7).toNat,none⟩=some (.int .u32 (Sha.word b (m-7))):=fun v=>by rw[qp _ _ _ _ (by intro h;injection h;omega)];exact d7
    have i0:(0:Int)<=(m:Int):=aJ
    have i1:(m:Int)<64:=aJ
    have j0:(0:Int)<=(m:Int)-15:=aJ
    have j1:(m:Int)-15<64:=aJ
    have j2:(0:Int)<=(m:Int)-2:=aJ
    have j3:(m:Int)-2<64:=aJ
    have j4:(0:Int)<=(m:Int)-16:=aJ
    have j5:(m:Int)-16<64:=aJ
    have j6:(0:Int)<=(m:Int)-7:=aJ
    have j7:(m:Int)-7<64:=aJ
    have k0:IntKind.i64.wrap ((m:Int)-15)=(m:Int)-15:=by rw[gP];omega
    have k1:IntKind.i64.wrap ((m:Int)-2)=(m:Int)-2:=by rw[gP];omega
    have k2:IntKind.i64.wrap ((m:Int)-16)=(m:Int)-16:=by rw[gP];omega
    have k3:IntKind.i64.wrap ((m:Int)-7)=(m:Int)-7:=by rw[gP];omega
    have g15:(15:Int)<=(m:Int):=aJ
    have g2:(2:Int)<=(m:Int):=aJ
    have g16:(16:Int)<=(m:Int):=aJ
    have g7:(7:Int)<=(m:Int):=aJ
    have n15:15<=m:=aJ
    have n2:2<=m:=aJ
    have n7:7<=m:=aJ
    have l15:Sha.word b (m-15)<4294967296:=Sha.word_lt b HB.out _;have l2:Sha.word b (m-2)<4294967296:=Sha.word_lt b HB.out _
    go_wp2
    go_region_held3 (fun w'=>w'.cell? ⟨w.heap.size+1+1,((m:Int)-15).toNat,none⟩=some (.int .u32 (Sha.word b (m-15)))/\w'.cell? ⟨w.heap.size+1+1,((m:Int)-2).toNat,none⟩=some (.int .u32 (Sha.word b (m-2)))) (go_keep) (fail)
    go_wp2_with fail
    refine(ajb _ _ l15).mono ?_;rintro e w' ⟨rfl,rfl⟩
    go_wp2_with fail
    refine(agx _ _ l15).mono ?_;rintro e w' ⟨rfl,rfl⟩
    go_wp2_with fail
    refine(agw _ _ l2).mono ?_;rintro e w' ⟨rfl,rfl⟩
    go_wp2_with fail
    refine(agy _ _ l2).mono ?_;rintro e w' ⟨rfl,rfl⟩
    go_wp2_with fail
    rw[Sha.agq _ l15,Sha.agr _ l2]
    go_region_held3 (fun w'=>w'.cell? ⟨w.heap.size+1+1,((m:Int)-16).toNat,none⟩=some (.int .u32 (Sha.word b (m-16)))/\w'.cell? ⟨w.heap.size+1+1,((m:Int)-7).toNat,none⟩=some (.int .u32 (Sha.word b (m-7)))) (simp[alC,hk7,d16,d7]) (fail)
    go_wp2
    go_roundw
    case rel=>
     have hv:=(Sha.abr (Sha.word b (m-16)) (Sha.s0 (Sha.word b (m-15))) (Sha.word b (m-7)) (Sha.s1 (Sha.word b (m-2)))).trans (ig (fun x:Nat=>(x:Int)) (Sha.Pj b m alI).symm)
     first
      |exact⟨m+1,aJ,aJ,oW,(HM.out.step _ hv).drew.drew⟩
      | ((repeat apply Exists.intro);exact⟨⟨m+1,aJ,aJ,oW,(HM.out.step _ hv).drew.drew⟩,rfl⟩)
    case measure=>simp[intOf];omega
   obtain rfl:m=64:=aJ
   have hwz:=yQ (Sha.upTo b 64);have aiT:=yQ (fun _=>0)
   have hinf:(Tryz.prog.info? 412).map (·.size)=some 64:=dD
   go_wp2_with (first
    | (refine gT rfl 412 _ rfl (w.heap.size+1+1) rfl 412 _ (0,0) _ HM.out.words Tryz.underlying412 rfl (by rw[hwz];exact hinf) ?_)
    | (refine cK rfl 412 _ _ rfl (w.heap.size+1) 0 (gZ (Sha.upTo b 64)) rfl rfl (bR HM.out.res 0 _ (by rw[hwz,aiT];omega)) (by rw[hwz];exact hinf) (Mr _) ?_))
   exact bV (pO Tryz.results277 _ _ (w.heap.size+1) 412 (gZ (Sha.upTo b 64)) (0,0) _ rfl (mQ _ _ _ _ _ HM.out.res (by rw[hwz,aiT])) Tryz.underlying412 rfl (by rw[hwz];exact hinf)) rfl
    ⟨by rw[Rk _ _ (fun i hi=>Sha.zY b 64 i hi)],jo _ _ HM.out.below aJ⟩
def oC(f:Nat->Nat):Array Value:=((List.range 8).map fun i=>Value.int .u32 (f i)).toArray
theorem je(f:Nat->Nat):(oC f).size=8:=by simp[oC]
theorem Xn(f:Nat->Nat)(i:Nat)(h:i<8):(oC f)[i]?=some (.int .u32 (f i)):=by simp[oC,h]
theorem aei(f:Nat->Nat)(n v:Nat):(oC f).setIfInBounds n (.int .u32 v)=oC (fun i=>if i=n then v else f i):=by
 apply Array.ext
 ·simp[oC]
 intro i h1 h2
 have h3:i<8:=by simpa[oC] using h2
 rw[uO (by simpa[oC] using h3)]
 by_cases e:n=i
 ·subst e;simp[oC]
 have e':¬i=n:=fun h=>e h.symm
 simp[oC,e,e']
theorem CF(f:Nat->Nat):(oC f).all (·.oneCell')=true:=by simp[oC,Value.oneCell']
theorem OY(f g:Nat->Nat)(h:∀i,i<8->f i=g i):oC f=oC g:=by
 unfold oC
 congr 1
 apply qX;intro i hi;rw[h i (kW.1 hi)]
def Sha.St.get(s:Sha.St):Nat->Nat
 |0=>s.a
 |1=>s.b
 |2=>s.c
 |3=>s.d
 |4=>s.e
 |5=>s.f
 |6=>s.g
 |_=>s.h
theorem UA:oC (fun _=>0)=#[.int .u32 0,.int .u32 0,.int .u32 0,.int .u32 0,.int .u32 0,.int .u32 0,.int .u32 0,.int .u32 0]:=rfl
theorem aeh(s:Sha.St):oC s.get=#[.int .u32 s.a,.int .u32 s.b,.int .u32 s.c,.int .u32 s.d,.int .u32 s.e,.int .u32 s.f,.int .u32 s.g,.int .u32 s.h]:=rfl
theorem abI(s t:Sha.St)(i:Nat)(h:i<8):(Sha.join s t).get i=(s.get i+t.get i) % 4294967296:=by
 match i,h with
 |0,_=>rfl
 |1,_=>rfl
 |2,_=>rfl
 |3,_=>rfl
 |4,_=>rfl
 |5,_=>rfl
 |6,_=>rfl
 |7,_=>rfl
 |n+8,h=>exact absurd h aJ
theorem VE(f:Nat->Nat):(fT f).all (·.oneCell')=true:=by simp[fT,Value.oneCell']
structure DI(s t:Sha.St)(w:ak)(m:Nat)(wr:ak):Prop where
 st:wr.heap[w.heap.size]?=some (.cells (oC fun j=>if j<m then (s.get j+t.get j) % 4294967296 else s.get j) 319 (0,0))
 res:wr.heap[w.heap.size+1+1]?=some (.cells (oC fun _=>0) 319 (0,0))
 below:Below w.heap.size w wr
variable {s t:Sha.St}
theorem DI.start(h0:wr.heap[w.heap.size]?=some (.cells (oC s.get) 319 (0,0)))(h2:wr.heap[w.heap.size+1+1]?=some (.cells (oC fun _=>0) 319 (0,0)))(hb:Below w.heap.size w wr):DI s t w 0 wr:=
 ⟨h0.trans (by rw[show oC s.get=oC (fun j=>if j<0 then (s.get j+t.get j) % 4294967296 else s.get j) from OY _ _ (fun i _=>by rw[aA aJ])]),h2,hb⟩
variable {m:Nat}
theorem DI.step(h:DI s t w m wr)(v:Int)(hv:v=(((s.get m+t.get m) % 4294967296:Nat):Int)):
  DI s t w (m+1) (wr.setCell ⟨w.heap.size,m,none⟩ (.int .u32 v)) where
 st:=by
  subst hv;rw[aR _ _ _ _ _ _ h.st,aei]
  have e:(fun i=>if i=m then (s.get m+t.get m) % 4294967296 else if i<m then (s.get i+t.get i) % 4294967296 else s.get i)=(fun j=>if j<m+1 then (s.get j+t.get j) % 4294967296 else s.get j):=by
   funext i
   by_cases e:i=m
   ·subst e;rw[aH rfl,aH aJ]
   rw[aA e]
   by_cases e2:i<m
   ·rw[aH e2,aH aJ]
   rw[aA e2,aA aJ]
  rw[e]
 res:=by rw[au _ _ _ _ (by simp;omega)];exact h.res
 below:=h.below.setCell eB _
theorem ZY(b:Nat->Nat)(hb:∀i,b i<256)(w:ak):
  Calls Tryz.prog 277 #[.agg (fT b)] w fun e w'=>∃W:Nat->Nat,Hid (W=Sha.word b)/\e=.returned (.agg (gZ W))/\Below w.heap.size w w':=
 (Xm b hb w).mono fun _ _ ⟨h1,h2⟩=>⟨_,rfl,h1,h2⟩
theorem ad1(K:Nat->Nat)(s:Sha.St)(hs:s.Ok)(b:Nat->Nat)(hb:∀i,b i<256)(w:ak)
  (hK:∀i,i<64->w.cell? ⟨10,i,none⟩=some (.int .u32 (K i))) (hKl:∀i,K i<4294967296):
  Calls Tryz.prog 204 #[.agg (oC s.get),.agg (fT b)] w fun e w'=>e=.returned (.agg (oC (Sha.mixed K s b).get))/\Below w.heap.size w w':=by
 have hz1:=je s.get;have hz2:=jD b
 have SY:(Tryz.prog.info? 320).map (·.size)=some 64:=dD
 have hr1:((w.alloc (.cells (oC s.get) 319)).alloc (.cells (fT b) 320)).heap[w.heap.size+1]?=some (.cells (fT b) 320 (0,0)):=bq _ _ _ eB
 go_enter Tryz.func204,Tryz.ntmps204
 go_wp2_with (refine gT rfl 320 _ rfl (w.heap.size+1) rfl 320 (fT b) (0,0) _ (by exact(bC _ _ _ eB).trans hr1) Tryz.underlying320 rfl (by rw[hz2];exact SY) ?_)
 have hb0:Below w.heap.size w (((w.alloc (.cells (oC s.get) 319)).alloc (.cells (fT b) 320)).alloc (.cells (oC fun _=>0) 319)):=(((ay _ _).alloc (ai _) _).alloc eB _).alloc (by simp;omega) _
 have q0:(((w.alloc (.cells (oC s.get) 319)).alloc (.cells (fT b) 320)).alloc (.cells (oC fun _=>0) 319)).heap[w.heap.size]?=some (.cells (oC s.get) 319 (0,0)):=by rw[bC _ _ _ (by simp;omega),bC _ _ _ eB];exact bq _ _ _ rfl
 have q2:(((w.alloc (.cells (oC s.get) 319)).alloc (.cells (fT b) 320)).alloc (.cells (oC fun _=>0) 319)).heap[w.heap.size+1+1]?=some (.cells (oC fun _=>0) 319 (0,0)):=bq _ _ _ eB;rw[<-UA]
 have hK0:∀i,i<64->(((w.alloc (.cells (oC s.get) 319)).alloc (.cells (fT b) 320)).alloc (.cells (oC fun _=>0) 319)).cell? ⟨10,i,none⟩=some (.int .u32 (K i)):=fun i hi=>by
  rw[hb0.cell (p:=⟨10,i,none⟩) (aG (hK i hi))];exact hK i hi
 have hgs:10<w.heap.size:=aG (hK 0 aJ);clear hK hr1;generalize hW0:((w.alloc (.cells (oC s.get) 319)).alloc (.cells (fT b) 320)).alloc (.cells (oC fun _=>0) 319)=W0 at*
 have hs0:W0.heap.size=w.heap.size+1+1+1:=by rw[<-hW0];simp
 clear hW0;refine(ZY b hb _).mono ?_;rintro e w1 ⟨W,HW,rfl,hb1⟩
 have hs1:w.heap.size+1+1+1<=w1.heap.size:=by have:=hb1.size;omega
 have r0:w1.heap[w.heap.size]?=some (.cells (oC s.get) 319 (0,0)):=by rw[hb1.block _ aJ];exact q0
 have r2:w1.heap[w.heap.size+1+1]?=some (.cells (oC fun _=>0) 319 (0,0)):=by rw[hb1.block _ aJ];exact q2
 have hK1:∀i,i<64->w1.cell? ⟨10,i,none⟩=some (.int .u32 (K i)):=fun i hi=>by rw[hb1.cell (p:=⟨10,i,none⟩) (by show 10<_;omega)];exact hK0 i hi
 have hB1:Below w.heap.size w w1:=hb0.trans (hb1.mono aJ);have R0:=aV r0;have R2:=aV r2;have RK:=aV hK1;have RB:=aV hB1;have RS:=aV hs;have RL:=aV hKl;have Rb:=aV hb;clear r0 r2 hK1 hB1 hb1 hb0 q0 q2 hK0 hs0 hs hKl hb W0;have hwz:=yQ W
 have i196:(Tryz.prog.info? 412).map (·.size)=some 64:=dD
 go_wp2_with (refine cK rfl 412 _ _ rfl w1.heap.size 0 (gZ W) rfl rfl (bR (bq _ _ _ rfl) 0 _ (by rw[hwz];decide)) (by rw[hwz];exact i196) (Mr _) ?_)
 rw[<-IB]
 have P0:Hid (((w1.alloc (.cells (gZ fun _=>0) 412)).setCells w1.heap.size 0 (gZ W).toList).heap[w.heap.size]?=some (.cells (oC s.get) 319 (0,0))):=by
  show _=_;rw[oN _ _ _ _ _ aJ,bC _ _ _ aJ];exact R0.out
 have P2:Hid (((w1.alloc (.cells (gZ fun _=>0) 412)).setCells w1.heap.size 0 (gZ W).toList).heap[w.heap.size+1+1]?=some (.cells (oC fun _=>0) 319 (0,0))):=by
  show _=_;rw[oN _ _ _ _ _ aJ,bC _ _ _ aJ];exact R2.out
 have P5:Hid (((w1.alloc (.cells (gZ fun _=>0) 412)).setCells w1.heap.size 0 (gZ W).toList).heap[w1.heap.size]?=some (.cells (gZ W) 412 (0,0))):=
  mQ _ _ _ _ _ (bq _ _ _ rfl) (by rw[hwz,yQ])
 have PB:Hid (Below w.heap.size w ((w1.alloc (.cells (gZ fun _=>0) 412)).setCells w1.heap.size 0 (gZ W).toList)):=jo _ _ (RB.out.alloc aJ _) aJ
 have PK:Hid (∀i,i<64->((w1.alloc (.cells (gZ fun _=>0) 412)).setCells w1.heap.size 0 (gZ W).toList).cell? ⟨10,i,none⟩=some (.int .u32 (K i))):=fun i hi=>by
  rw[World.cell?_setCells_out _ _ _ _ _ (fun h=>by simp at h;omega),bU _ _ ⟨10,i,none⟩ (by show 10<_;omega)];exact RK.out i hi
 clear R0 R2 RK RB;generalize hW2:(w1.alloc (.cells (gZ fun _=>0) 412)).setCells w1.heap.size 0 (gZ W).toList=W2 at*;clear hW2
 have c0:W2.cell? ⟨w.heap.size,0,none⟩=some (.int .u32 s.a):=by rw[aj _ _ _ _ _ _ P0.out];rfl
 have c1:W2.cell? ⟨w.heap.size,1,none⟩=some (.int .u32 s.b):=by rw[aj _ _ _ _ _ _ P0.out];rfl
 have c2:W2.cell? ⟨w.heap.size,2,none⟩=some (.int .u32 s.c):=by rw[aj _ _ _ _ _ _ P0.out];rfl
 have c3:W2.cell? ⟨w.heap.size,3,none⟩=some (.int .u32 s.d):=by rw[aj _ _ _ _ _ _ P0.out];rfl
 have c4:W2.cell? ⟨w.heap.size,4,none⟩=some (.int .u32 s.e):=by rw[aj _ _ _ _ _ _ P0.out];rfl
 have c5:W2.cell? ⟨w.heap.size,5,none⟩=some (.int .u32 s.f):=by rw[aj _ _ _ _ _ _ P0.out];rfl
 have c6:W2.cell? ⟨w.heap.size,6,none⟩=some (.int .u32 s.g):=by rw[aj _ _ _ _ _ _ P0.out];rfl
 have c7:W2.cell? ⟨w.heap.size,7,none⟩=some (.int .u32 s.h):=by rw[aj _ _ _ _ _ _ P0.out];rfl
 simp only[Act.put]
 go_quiet (fail)
 obtain⟨q1,rfl⟩:∃q1,q1=nq:=⟨_,rfl⟩
 go_wp2
 go_quiet (fail)
 clear c0 c1 c2 c3 c4 c5 c6 c7
 go_wp2_with (refine gT rfl 412 _ rfl w1.heap.size rfl 412 (gZ W) (0,0) _ (by exact P5.out) Tryz.underlying412 rfl (by rw[hwz];exact i196) ?_)
 have Q0:Hid ((W2.drewN (q1+nq)).heap[w.heap.size]?=some (.cells (oC s.get) 319 (0,0))):=P0.out;have Q2:Hid ((W2.drewN (q1+nq)).heap[w.heap.size+1+1]?=some (.cells (oC fun _=>0) 319 (0,0))):=P2.out;have QB:Hid (Below w.heap.size w (W2.drewN (q1+nq))):=below_drewN PB.out _;have QK:Hid (∀i,i<64->(W2.drewN (q1+nq)).cell? ⟨10,i,none⟩=some (.int .u32 (K i))):=PK.out;clear P0 P2 P5 PB PK;generalize hW3:W2.drewN (q1+nq)=W3 at*;clear hW3 q1 nq
 go_loop [6,7,8,9,10,11,12,13,41] (fun a b c d e f g h i=>∃n:Nat,n<=64/\i=.int .i64 n/\∃t:Sha.St,Hid (t=Sha.after K W s n)/\a=.int .u32 t.a/\b=.int .u32 t.b/\c=.int .u32 t.c/\d=.int .u32 t.d/\e=.int .u32 t.e/\f=.int .u32 t.f/\g=.int .u32 t.g/\h=.int .u32 t.h) (fun _ _ _ _ _ _ _ _ i=>64-(intOf i).toNat)
 case atStart=>exact⟨0,aJ,rfl,s,rfl,rfl,rfl,rfl,rfl,rfl,rfl,rfl,rfl⟩
 case round=>
  obtain⟨n,hn,rfl,t,HT,rfl,rfl,rfl,rfl,rfl,rfl,rfl,rfl⟩:=hrel
  have ht:t.Ok:=by rw[HT.out];exact Sha.RP K W s RS.out n
  by_cases hlt:n<64
  ·have kc:=QK.out n hlt
   have hidx:∀wx,(Instr.index 412 (.agg (gZ W)) (.int .i64 n)).run Tryz.prog wx=.ok (.int .u32 (W n)) wx:=by
    intro wx
    simp[Instr.index,go_sem,CK W n hlt]
    omega
   have i0:(0:Int)<=(n:Int):=aJ
   have i1:(n:Int)<64:=aJ
   have la:=ht.a;have le:=ht.e
   go_wp2_with fail
   refine(aja _ _ le).mono ?_;rintro e w' ⟨rfl,rfl⟩
   go_wp2_with fail
   refine(agu _ _ le).mono ?_;rintro e w' ⟨rfl,rfl⟩
   go_wp2_with fail
   refine(agA _ _ le).mono ?_;rintro e w' ⟨rfl,rfl⟩
   go_wp2_with fail
   refine(ai9 _ _ la).mono ?_;rintro e w' ⟨rfl,rfl⟩
   go_wp2_with fail
   refine(agv _ _ la).mono ?_;rintro e w' ⟨rfl,rfl⟩
   go_wp2_with fail
   refine(agz _ _ la).mono ?_;rintro e w' ⟨rfl,rfl⟩
   go_wp2
   rw[Sha.afE _ ht.e,Sha.afD _ ht.a,Sha.afJ _ _ _ ht.e ht.f ht.g,Sha.adY _ _ _ ht.a ht.b ht.c,Sha.aec (K n) (W n) t,Sha.aed (K n) (W n) t];refine⟨⟨n+1,aJ,oW,Sha.round (K n) (W n) t,?_,rfl,rfl,rfl,rfl,rfl,rfl,rfl,rfl⟩,?_⟩
   ·show _=Sha.round (K n) (W n) (Sha.after K W s n);rw[HT.out]
   simp[intOf];omega
  obtain rfl:n=64:=aJ
  go_wp2
  rw[<-aeh t];clear QK RL Rb;have RT:=aV ht;clear ht
  go_loopw [115] (fun i wr=>∃m:Nat,m<=8/\i=.int .i64 m/\DI s t w m wr) (fun i _=>8-(intOf i).toNat)
  case atStart=>exact⟨0,aJ,rfl,DI.start Q0.out Q2.out QB.out⟩
  case round=>
   clear Q0 Q2 QB;obtain⟨m,hm,rfl,hmem⟩:=hrel;have HM:=aV hmem;clear hmem
   by_cases hlt:m<8
   ·have kc:wr.cell? ⟨w.heap.size,m,none⟩=some (.int .u32 (s.get m)):=by
     rw[aj _ _ _ _ _ _ HM.out.st,Xn _ m hlt,aA aJ]
    have fz:wr.frozen? ⟨w.heap.size,m,none⟩=false:=aD _ _ _ _ _ HM.out.st
    have hidx:∀wx,(Instr.index 319 (.agg (oC t.get)) (.int .i64 m)).run Tryz.prog wx=.ok (.int .u32 (t.get m)) wx:=by
     intro wx
     simp[Instr.index,go_sem,Xn t.get m hlt]
     omega
    have i0:(0:Int)<=(m:Int):=aJ
    have i1:(m:Int)<8:=aJ
    go_wp2
    go_roundw
    case rel=>
     first
      |exact⟨m+1,aJ,oW,HM.out.step _ aJ⟩
      | ((repeat apply Exists.intro);exact⟨⟨m+1,aJ,oW,HM.out.step _ aJ⟩,rfl⟩)
    case measure=>simp[intOf];omega
   obtain rfl:m=8:=aJ
   have hy1:=je (fun j=>if j<8 then (s.get j+t.get j) % 4294967296 else s.get j);have hy2:=je (fun _=>0)
   have i131:(Tryz.prog.info? 319).map (·.size)=some 8:=dD
   go_wp2_with (first
    | (refine gT rfl 319 _ rfl w.heap.size rfl 319 _ (0,0) _ HM.out.st Tryz.underlying319 rfl (by rw[hy1];exact i131) ?_)
    | (refine cK rfl 319 _ _ rfl (w.heap.size+1+1) 0 (oC fun j=>if j<8 then (s.get j+t.get j) % 4294967296 else s.get j) rfl rfl (bR HM.out.res 0 _ (by rw[hy1,hy2];omega)) (by rw[hy1];exact i131) (CF _) ?_))
   refine bV (pO Tryz.results204 _ _ (w.heap.size+1+1) 319 (oC fun j=>if j<8 then (s.get j+t.get j) % 4294967296 else s.get j) (0,0) _ rfl (mQ _ _ _ _ _ HM.out.res (by rw[hy1,hy2])) Tryz.underlying319 rfl (by rw[hy1];exact i131)) rfl
    ⟨?_,jo _ _ HM.out.below aJ⟩
   have hfin:(Sha.mixed K s b)=Sha.join s t:=by unfold Sha.mixed;rw[HT.out,HW.out]
   rw[hfin,OY _ (Sha.join s t).get (fun i hi=>by rw[aH hi,abI s t i hi])]
def kK(f:Nat->Nat):Array Value:=((List.range 32).map fun i=>Value.int .u8 (f i)).toArray
theorem sZ(f:Nat->Nat):(kK f).size=32:=by simp[kK]
theorem Fs(f:Nat->Nat)(i:Nat)(h:i<32):(kK f)[i]?=some (.int .u8 (f i)):=by simp[kK,h]
theorem Fu(f:Nat->Nat)(n v:Nat):(kK f).setIfInBounds n (.int .u8 v)=kK (fun i=>if i=n then v else f i):=by
 apply Array.ext
 ·simp[kK]
 intro i h1 h2
 have h3:i<32:=by simpa[kK] using h2
 rw[uO (by simpa[kK] using h3)]
 by_cases e:n=i
 ·subst e;simp[kK]
 have e':¬i=n:=fun h=>e h.symm
 simp[kK,e,e']
theorem Lb(f:Nat->Nat):(kK f).all (·.oneCell')=true:=by simp[kK,Value.oneCell']
theorem WW(f g:Nat->Nat)(h:∀i,i<32->f i=g i):kK f=kK g:=by
 unfold kK
 congr 1
 apply qX;intro i hi;rw[h i (kW.1 hi)]
theorem GA:kK (fun _=>0)=#[.int .u8 0,.int .u8 0,.int .u8 0,.int .u8 0,.int .u8 0,.int .u8 0,.int .u8 0,.int .u8 0,.int .u8 0,.int .u8 0,.int .u8 0,.int .u8 0,.int .u8 0,.int .u8 0,.int .u8 0,.int .u8 0,.int .u8 0,.int .u8 0,.int .u8 0,.int .u8 0,.int .u8 0,.int .u8 0,.int .u8 0,.int .u8 0,.int .u8 0,.int .u8 0,.int .u8 0,.int .u8 0,.int .u8 0,.int .u8 0,.int .u8 0,.int .u8 0]:=rfl
def Sha.St.byte(s:Sha.St)(j:Nat):Nat:=s.get (j/4)/2 ^ (24-8*(j % 4)) % 256
structure JD(s:Sha.St)(w:ak)(m:Nat)(wr:ak):Prop where
 out:∃f,wr.heap[w.heap.size+1+1]?=some (.cells (kK f) 217 (0,0))/\∀j,j<4*m->f j=s.byte j
 res:wr.heap[w.heap.size+1]?=some (.cells (kK fun _=>0) 217 (0,0))
 below:Below w.heap.size w wr
theorem JD.step(h:JD s w m wr)(v0 v1 v2 v3:Int)
  (h0:v0=((s.get m/16777216 % 256:Nat):Int)) (h1:v1=((s.get m/65536 % 256:Nat):Int)) (h2:v2=((s.get m/256 % 256:Nat):Int)) (h3:v3=((s.get m % 256:Nat):Int))
  (o0 o1 o2 o3:Nat) (e0:o0=4*m) (e1:o1=4*m+1) (e2:o2=4*m+2) (e3:o3=4*m+3):
  JD s w (m+1) ((((wr.setCell ⟨w.heap.size+1+1,o0,none⟩ (.int .u8 v0)).setCell ⟨w.heap.size+1+1,o1,none⟩ (.int .u8 v1)).setCell ⟨w.heap.size+1+1,o2,none⟩ (.int .u8 v2)).setCell ⟨w.heap.size+1+1,o3,none⟩ (.int .u8 v3)) where
 out:=by
  obtain⟨f,hf,hj⟩:=h.out;subst h0 h1 h2 h3 e0 e1 e2 e3;have g0:=aR _ _ (4*m) _ _ (.int .u8 ((s.get m/16777216 % 256:Nat):Int)) hf;rw[Fu] at g0;have g1:=aR _ _ (4*m+1) _ _ (.int .u8 ((s.get m/65536 % 256:Nat):Int)) g0;rw[Fu] at g1;have g2:=aR _ _ (4*m+2) _ _ (.int .u8 ((s.get m/256 % 256:Nat):Int)) g1;rw[Fu] at g2;have g3:=aR _ _ (4*m+3) _ _ (.int .u8 ((s.get m % 256:Nat):Int)) g2;rw[Fu] at g3;refine⟨_,g3,fun j hlt=>?_⟩;unfold Sha.St.byte
  by_cases c3:j=4*m+3
  ·subst c3
   rw[aH rfl,show(4*m+3)/4=m by omega,show(4*m+3) % 4=3 by omega];try simp
  rw[aA c3]
  by_cases c2:j=4*m+2
  ·subst c2;rw[aH rfl,show(4*m+2)/4=m by omega,show(4*m+2) % 4=2 by omega]
  rw[aA c2]
  by_cases c1:j=4*m+1
  ·subst c1;rw[aH rfl,show(4*m+1)/4=m by omega,show(4*m+1) % 4=1 by omega]
  rw[aA c1]
  by_cases c0:j=4*m
  ·subst c0;rw[aH rfl,show(4*m)/4=m by omega,show(4*m) % 4=0 by omega]
  rw[aA c0,hj j aJ];rfl
 res:=by
  rw[au _ _ _ _ eB,au _ _ _ _ eB,au _ _ _ _ eB,au _ _ _ _ eB];exact h.res
 below:=(((h.below.setCell (by simp;omega) _).setCell (by simp;omega) _).setCell (by simp;omega) _).setCell (by simp;omega) _
theorem LX(s:Sha.St)(hs:s.Ok)(w:ak):
  Calls Tryz.prog 205 #[.agg (oC s.get)] w fun e w'=>e=.returned (.agg (kK s.byte))/\Below w.heap.size w w':=by
 have hz1:=je s.get
 have i131:(Tryz.prog.info? 319).map (·.size)=some 8:=dD
 have RS:=aV hs;clear hs
 have hr1:((w.alloc (.cells (oC s.get) 319)).alloc (.cells (kK fun _=>0) 217)).heap[w.heap.size]?=some (.cells (oC s.get) 319 (0,0)):=by rw[bC _ _ _ eB];exact bq _ _ _ rfl
 have M0:Hid (JD s w 0 (((w.alloc (.cells (oC s.get) 319)).alloc (.cells (kK fun _=>0) 217)).alloc (.cells (kK fun _=>0) 217))):=
  ⟨⟨_,bq _ _ _ eB,fun j h=>aJ⟩,by rw[bC _ _ _ eB];exact bq _ _ _ eB,(((ay _ _).alloc (ai _) _).alloc eB _).alloc (by simp;omega) _⟩
 have HR:Hid ((((w.alloc (.cells (oC s.get) 319)).alloc (.cells (kK fun _=>0) 217)).alloc (.cells (kK fun _=>0) 217)).heap[w.heap.size]?=some (.cells (oC s.get) 319 (0,0))):=by
  show _=_;rw[bC _ _ _ (by simp;omega)];exact hr1
 clear hr1
 go_enter Tryz.func205,Tryz.ntmps205
 go_wp2_with (refine gT rfl 319 _ rfl w.heap.size rfl 319 (oC s.get) (0,0) _ (by exact HR.out) Tryz.underlying319 rfl (by rw[hz1];exact i131) ?_)
 rw[<-GA]
 go_loopw [7] (fun i wr=>∃m:Nat,m<=8/\i=.int .i64 m/\JD s w m wr) (fun i _=>8-(intOf i).toNat)
 case atStart=>exact⟨0,aJ,rfl,M0.out⟩
 case round=>
  clear M0 HR;obtain⟨m,hm,rfl,hmem⟩:=hrel;have HM:=aV hmem;clear hmem
  by_cases hlt:m<8
  ·obtain⟨f,hf,hj⟩:=HM.out.out
   have hidx:∀wx,(Instr.index 319 (.agg (oC s.get)) (.int .i64 m)).run Tryz.prog wx=.ok (.int .u32 (s.get m)) wx:=by
    intro wx
    simp[Instr.index,go_sem,Xn s.get m hlt]
    omega
   have c0:∃v,wr.cell? ⟨w.heap.size+1+1,4*m,none⟩=some v:=⟨_,by rw[aj _ _ _ _ _ _ hf];exact Fs _ _ aJ⟩;have c1:∃v,wr.cell? ⟨w.heap.size+1+1,4*m+1,none⟩=some v:=⟨_,by rw[aj _ _ _ _ _ _ hf];exact Fs _ _ aJ⟩;have c2:∃v,wr.cell? ⟨w.heap.size+1+1,4*m+2,none⟩=some v:=⟨_,by rw[aj _ _ _ _ _ _ hf];exact Fs _ _ aJ⟩;have c3:∃v,wr.cell? ⟨w.heap.size+1+1,4*m+3,none⟩=some v:=⟨_,by rw[aj _ _ _ _ _ _ hf];exact Fs _ _ aJ⟩;obtain⟨v0,c0⟩:=c0;obtain⟨v1,c1⟩:=c1;obtain⟨v2,c2⟩:=c2;obtain⟨v3,c3⟩:=c3
   have fz:∀o,wr.frozen? ⟨w.heap.size+1+1,o,none⟩=false:=fun o=>aD _ _ _ _ _ hf
   clear hf hj
   have i0:(0:Int)<=(m:Int):=aJ
   have i1:(m:Int)<8:=aJ
   go_wp2
   go_roundw
   case rel=>
    first
     |exact⟨m+1,aJ,oW,HM.out.step _ _ _ _ aJ aJ aJ aJ _ _ _ _ rfl rfl rfl rfl⟩
     | ((repeat apply Exists.intro);exact⟨⟨m+1,aJ,oW,HM.out.step _ _ _ _ aJ aJ aJ aJ _ _ _ _ rfl rfl rfl rfl⟩,rfl⟩)
   case measure=>simp[intOf];omega
  obtain rfl:m=8:=aJ
  obtain⟨f,hf,hj⟩:=HM.out.out;have HF:=aV hf;have HJ:=aV hj;clear hf hj;have hy1:=sZ f;have hy2:=sZ (fun _=>0)
  have i67:(Tryz.prog.info? 217).map (·.size)=some 32:=dD
  go_wp2_with (first
   | (refine gT rfl 217 _ rfl (w.heap.size+1+1) rfl 217 _ (0,0) _ HF.out Tryz.underlying217 rfl (by rw[hy1];exact i67) ?_)
   | (refine cK rfl 217 _ _ rfl (w.heap.size+1) 0 (kK f) rfl rfl (bR HM.out.res 0 _ (by rw[hy1,hy2];omega)) (by rw[hy1];exact i67) (Lb _) ?_))
  refine bV (pO Tryz.results205 _ _ (w.heap.size+1) 217 (kK f) (0,0) _ rfl (mQ _ _ _ _ _ HM.out.res (by rw[hy1,hy2])) Tryz.underlying217 rfl (by rw[hy1];exact i67)) rfl
   ⟨?_,jo _ _ HM.out.below aJ⟩
  rw[WW f s.byte (fun i hi=>HJ.out i aJ)]
end
end Go.Proofs.YthhbpebihgjpjaaGreatDoor
