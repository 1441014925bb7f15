import Derived.Test.YthhbpebihgjpjaaGreatDoorZ13
import Derived.Test.YthhbpebihgjpjaaGreatDoorZ05
namespace Go.Proofs.YthhbpebihgjpjaaGreatDoor
set_option maxRecDepth 1000000
set_option maxHeartbeats 20000000
set_option linter.all false
section
open Go.RowKit
theorem Hl(f:ah->Option ah):∀(r:List ah) (acc out:ah),og f r acc=some out->acc.size<=out.size
 |[],acc,out,h=>by
  obtain rfl:acc=out:=ak h;exact ai _
 |x::r,acc,out,h=>by
  rw[og] at h
  split at h
  ·have:=Hl f r _ _ h;rw[aH] at this;omega
  cases h
theorem RU{f:ah->Option ah}{r:List ah}{acc:ah}(h:4000<acc.size):iU (og f r acc)=none:=by
 unfold iU
 cases e:og f r acc with
 |none=>rfl
 |some out=>
  have:=Hl f r acc out e;simp only[aaW];rw[ax (by omega)]
theorem adr(f:ah->Option ah)(r:List ah)(vw rv:Value)(w:aj)(h:Jr w rv f)(hw:bG w vw r)(hl:r.length<=1048577)(hrs:∀d∈r,d.size<=1048576):
  Calls Tryz.prog 295 #[.agg #[vw,rv]] w fun e w'=>e=.returned (mh (iU (og f r ⟨#[]⟩)))/\Below w.heap.size w w':=by
 have H:=aP h;have HW:=aP hw;have wU:=aP hrs;clear hrs;obtain⟨ao,cap,hvw,hcap,hcell⟩:=hw
 have n0:(r.length:Int)<=1048577:=by omega
 generalize hL:r.length=L at*;have HL:=aP hL;subst hvw;clear h hcell hL
 go_enter Tryz.func295,Tryz.ntmps295
 go_wp2_with fail
 go_loopw [12] (fun i wr=>∃(j:Nat) (acc:ah),i=.int .i64 j/\j<=L/\acc.size<=4000/\dP wr (w.heap.size+1) acc/\Below (w.heap.size+1) (w.alloc (.cells #[.slice ao L cap,rv] 349)) wr/\iU (og f (r.drop j) acc)=iU (og f r ⟨#[]⟩)) (fun i _=>L-(intOf i).toNat)
 case atStart=>
  refine⟨0,⟨#[]⟩,rfl,aN _,by decide,?_,?_,rfl⟩
  ·have:=uW (w.alloc (.cells #[.slice ao L cap,rv] 349))
   simpa using this
  exact(au _ _).alloc (by simp) _
 case round=>
  obtain⟨j,acc,rfl,hle,has,hbu,hbw,hct⟩:=hrel;have uM:=aP hbu;have lF:=aP hbw;have HCT:=aP hct;have HB0:Hid (Below w.heap.size w wr):=((au _ _).alloc (ai _) _).trans (lF.out.mono (by omega));have x0:wr.cell? ⟨w.heap.size,0,none⟩=some (.slice ao L cap):=(lF.out.cell (p:=⟨w.heap.size,0,none⟩) (by simp)).trans (by simp);have x1:wr.cell? ⟨w.heap.size,1,none⟩=some rv:=(lF.out.cell (p:=⟨w.heap.size,1,none⟩) (by simp)).trans (by simp);clear hbu hbw hct
  have j0:(0:Int)<=(j:Int):=by omega
  by_cases hlt:j<L
  ·have j1:(j:Int)<(L:Int):=by omega
   obtain⟨y,hy⟩:∃y,r[j]?=some y:=⟨r[j]'(by have:=HL.out;omega),by simp⟩
   obtain⟨g1,o1,hao,q1⟩:∃b o,ao=some ⟨b,o,none⟩/\∀k s,r[k]?=some s->w.cell? ⟨b,o+k,none⟩=some (.string s):=by
    obtain⟨Bl,cap',e1,_,e|⟨b,o,e2,e3⟩⟩:=HW.out
    ·rw[e.2.1] at hy;simp at hy
    have:ao=Bl:=by injection e1
    exact⟨b,o,this.trans e2,e3⟩
   subst hao;have r1:wr.cell? ⟨g1,o1+j,none⟩=some (.string y):=(HB0.out.cell (p:=⟨g1,o1+j,none⟩) (aC (q1 j y hy))).trans (q1 j y hy)
   have HDP:Hid (r.drop j=y::r.drop (j+1)):=by
    obtain⟨h1,h2⟩:=aJ.1 hy;show _=_;rw[fA h1,h2]
   have HYS:=aP (wU.out y (aO hy));clear q1 hy
   go_wp2_with fail
   refine(H.out.ask _ HB0.out _ y HYS.out).mono ?_;rintro e w2 ⟨rfl,hb2⟩;have HB2:=aP hb2;have Yo:=aP (uM.out.below hb2);have HLT:=aP uM.out.lt;clear hb2;unfold mh
   cases hf:f y with
   |none=>
    have HN:Hid (iU (og f r ⟨#[]⟩)=none):=by
     show _=_;rw[<-HCT.out,HDP.out,og,hf];rfl
    simp only[jC,iN];clear hf
    go_wp2_with fail
    go_ret2;exact⟨by rw[HN.out];rfl,HB0.out.trans (HB2.out.mono (by have:=HLT.out;omega))⟩
   |some d=>
    have Ev:Hid (iU (og f (r.drop (j+1)) (acc++d))=iU (og f r ⟨#[]⟩)):=by
     show _=_;rw[<-HCT.out,HDP.out,og,hf]
    have d0:(d.size:Int)<=1048576:=by have:=H.out.small _ d hf;omega
    have a0:(acc.size:Int)<=4000:=by omega
    simp only[bY,fT];clear hf
    by_cases hbig:4000<acc.size+d.size
    ·have HN:Hid (iU (og f r ⟨#[]⟩)=none):=by
      show _=_;rw[<-Ev.out];exact RU (by rw[aH];exact hbig)
     have b1:(4000:Int)<(acc.size:Int)+(d.size:Int):=by omega
     go_wp2_with fail
     refine(JQ _ acc _ Yo.out).mono ?_;rintro e w3 ⟨rfl,rfl⟩
     go_wp2_with fail
     go_ret2;exact⟨by rw[HN.out];rfl,HB0.out.trans (HB2.out.mono (by have:=HLT.out;omega))⟩
    have b1:¬(4000:Int)<(acc.size:Int)+(d.size:Int):=by omega
    have HS:Hid ((acc++d).size<=4000):=by
     show _<=_;rw[aH];omega
    have HQ:Hid (acc.size+d.size<=140737488355328):=by
     show _<=_;omega
    go_wp2_with fail
    refine(JQ _ acc _ Yo.out).mono ?_;rintro e w3 ⟨rfl,rfl⟩
    go_wp2_with fail
    refine(rG _ acc d _ Yo.out HQ.out).mono ?_;rintro e w4 ⟨rfl,hb4,hb5⟩;have xu:=aP hb4;have Bo:=aP hb5;clear hb4 hb5
    go_wp2_with fail
    refine⟨⟨j+1,acc++d,by go_num,hlt,HS.out,xu.out,(lF.out.trans (HB2.out.mono (by have:=HLT.out;omega))).trans Bo.out,Ev.out⟩,by simp[intOf];omega⟩
  obtain rfl:j=L:=by omega
  have HN:Hid (iU (og f r ⟨#[]⟩)=some acc):=by
   show _=_;rw[<-HCT.out,kR (by have:=HL.out;omega),og];show(if acc.size<=4000 then some acc else none)=some acc;rw[aD has]
  go_wp2_with fail
  refine(uV _ acc _ uM.out).mono ?_;rintro e w2 ⟨rfl,hb2,hb3⟩;have HB3:=aP hb3;clear hb2 hb3
  go_wp2_with fail
  go_ret2;exact⟨by rw[HN.out];rfl,HB0.out.trans (HB3.out.mono (by omega))⟩
theorem Nq{P:Program}(w:aj)(t e:TypeId)(n:Nat)(cs:Array Value)(k:IntKind)(i:Nat)(v:Value)(h:P.underlying t=some (.array n e))(hs:∀w,(Go.sizeOf e).run P w=.ok 1 w)(ha:∀w,(isAgg e).run P w=.ok false w)(hi:i<n)(hv:cs[i]?=some v):
  (Instr.index t (.agg cs) (.int k i)).run P w=.ok v w:=by
 have h1:(0:Int)<=(i:Int)/\(i:Int)<(n:Int):=by omega
 simp[Instr.index,mZ h,asIntOf,hi,hv,hs,ha,go_sem]
theorem adC:∀x,x<256->bits .and .u8 (x:Nat) 15=((x % 16:Nat):Int):=by decide+kernel
theorem Kt(s:ah):∀j,(vH s j).size=2*j
 |0=>rfl
 |j+1=>by
  rw[vH,aH,aH,Kt s j];show 2*j+1+1=_;omega
theorem JZ(h:Nat)(hh:h<16)(p:h<(ByteArray.mk #[48,49,50,51,52,53,54,55,56,57,97,98,99,100,101,102]).size):((((ByteArray.mk #[48,49,50,51,52,53,54,55,56,57,97,98,99,100,101,102])[h]'p).toNat:Nat):Int)=((ER h).toNat:Int):=by
 have:h=0\/h=1\/h=2\/h=3\/h=4\/h=5\/h=6\/h=7\/h=8\/h=9\/h=10\/h=11\/h=12\/h=13\/h=14\/h=15:=by omega
 rcases this with rfl|rfl|rfl|rfl|rfl|rfl|rfl|rfl|rfl|rfl|rfl|rfl|rfl|rfl|rfl|rfl<;>rfl
theorem Zn(s:ah)(f:Nat->Nat)(hf:∀k,k<32->f k=(s.get! k).toNat)(w:aj):
  Calls Tryz.prog 328 #[.agg (kG f)] w fun e w'=>e=.returned (.string (vH s 32))/\Below w.heap.size w w':=by
 have HF:=aP hf
 have i32:(Tryz.prog.info? 217).map (·.size)=some 32:=by kernel_rfl
 have hz:(kG f).size=32:=sU f
 have HOX:Hid (∀(k:Nat) wx,k<32->(Instr.index 217 (.agg (kG f)) (.int .i64 k)).run Tryz.prog wx=.ok (.int .u8 (f k)) wx):=fun k wx hk=>Nq wx _ _ 32 _ _ k _ Tryz.underlying217 Tryz.sizeOf5 Tryz.isAgg5 hk (Fq f k hk)
 clear hf;obtain⟨V,hV⟩:∃V,V=kG f:=⟨_,rfl⟩;rw[<-hV] at hz HOX⊢;clear hV
 go_enter Tryz.func328,Tryz.ntmps328
 go_wp2_with (refine gJ rfl 217 _ rfl w.heap.size rfl 217 V (0,0) _ (by exact(aZ _ _ _ (by simp)).trans (aW _ _ _ rfl)) Tryz.underlying217 rfl (by rw[hz];exact i32) ?_)
 go_loopw [7] (fun i wr=>∃(j:Nat),i=.int .i64 j/\j<=32/\dP wr (w.heap.size+1) (vH s j)/\Below w.heap.size w wr) (fun i _=>32-(intOf i).toNat)
 case atStart=>
  refine⟨0,rfl,by omega,?_,(((au _ _).alloc (ai _) _).alloc (by simp) _)⟩;have:=uW (w.alloc (.cells V 217))
  simpa[vH] using this
 case round=>
  obtain⟨j,rfl,hle,hbu,hbw⟩:=hrel;have uM:=aP hbu;have lF:=aP hbw;clear hbu hbw
  have j0:(0:Int)<=(j:Int):=by omega
  by_cases hlt:j<32
  ·have j1:(j:Int)<32:=by omega
   have hox:∀wx,(Instr.index 217 (.agg V) (.int .i64 j)).run Tryz.prog wx=.ok (.int .u8 (f j)) wx:=fun wx=>HOX.out j wx hlt
   have HX:=aP (HF.out j hlt)
   have Yw:Hid (f j<256):=by show _<_;rw[HX.out];exact UInt8.toNat_lt _
   generalize f j=x at*
   have x0:(x:Int)<256:=by have:=Yw.out;omega
   have hlo:=adC x Yw.out
   go_wp2_with fail
   refine(xA _ _ (ER (x/16)) _ (JZ _ (by have:=Yw.out;omega) _) _ uM.out (by rw[Kt];omega)).mono ?_;rintro e w2 ⟨rfl,hb2,hb3⟩;have HB2:=aP hb2;have HB3:=aP hb3;clear hb2 hb3
   go_wp2_with fail
   refine(xA _ _ (ER (x % 16)) _ (JZ _ (by omega) _) _ HB2.out (by rw[aH,Kt];show 2*j+1+1<=_;omega)).mono ?_;rintro e w3 ⟨rfl,hb4,hb5⟩
   have xu:Hid (dP w3 (w.heap.size+1) (vH s (j+1))):=by
    show dP _ _ _;rw[vH,<-HX.out];exact hb4
   have Bo:=aP hb5;clear hb4 hb5
   go_wp2_with fail
   exact⟨⟨j+1,by go_num,hlt,xu.out,(lF.out.trans (HB3.out.mono (by omega))).trans (Bo.out.mono (by omega))⟩,by simp[intOf];omega⟩
  obtain rfl:j=32:=by omega
  go_wp2_with fail
  refine(uV _ _ _ uM.out).mono ?_;rintro e w2 ⟨rfl,hb2,hb3⟩;have HB3:=aP hb3;clear hb2 hb3
  go_wp2_with fail
  go_ret;exact⟨rfl,lF.out.trans (HB3.out.mono (by omega))⟩
theorem WW(f:Nat->Nat)(k:Nat)(hk:k<32)(hf:f k<256):f k=((Az f).get! k).toNat:=by
 have:(Az f).get! k=UInt8.ofNat (f k):=by
  show(((List.range 32).map fun j=>UInt8.ofNat (f j)).toArray)[k]! =_;rw[getElem!_pos _ _ (by simpa using hk)]
  simp
 rw[this,Vs];exact(aaV hf).symm
theorem abj(f:ah->Option ah)(r:List ah)(vw rv:Value)(w:aj)(h:Jr w rv f)(hw:bG w vw r)(hl:r.length<=1048577)(hrs:∀d∈r,d.size<=1048576)(hR:jw w):
  Calls Tryz.prog 296 #[.agg #[vw,rv]] w fun e w'=>e=.returned (mh (Ar f r))/\Below w.heap.size w w':=by
 have H:=aP h;have HW:=aP hw;have HR:=aP hR;obtain⟨ao,cap,hvw,hcap,hcell⟩:=hw;subst hvw;clear h hcell hR
 cases r with
 |nil=>
  clear hrs
  go_enter Tryz.func296,Tryz.ntmps296
  go_wp2_with fail
  go_ret2;exact⟨rfl,(au _ _).alloc (ai _) _⟩
 |cons y q=>
  have hy:(y.size:Int)<=1048576:=by have:=hrs y (by simp);omega
  have wU:Hid (∀d∈q,d.size<=1048576):=fun d hd=>hrs d (aU _ hd)
  clear hrs;obtain⟨L,hL⟩:∃L,L=q.length:=⟨_,rfl⟩;have HL:=aP hL;simp only[aS] at hl hcap⊢;rw[<-hL] at hl hcap⊢;clear hL
  have n0:(L:Int)<=1048576:=by omega
  have n1:(L:Int)+1<=(cap:Int):=by omega
  have n2:¬((L:Int)+1=0):=by omega
  obtain⟨g1,o1,hao,q1⟩:∃b o,ao=some ⟨b,o,none⟩/\∀k s,(y::q)[k]?=some s->w.cell? ⟨b,o+k,none⟩=some (.string s):=by
   obtain⟨Bl,cap',e1,_,e|⟨b,o,e2,e3⟩⟩:=HW.out
   ·cases e.2.1
   have:ao=Bl:=by injection e1
   exact⟨b,o,this.trans e2,e3⟩
  subst hao;obtain⟨o2,ho2,hsl⟩:=LM g1 o1 L cap hcap
  have HQ:Hid (∀k s,q[k]?=some s->w.cell? ⟨g1,o2+k,none⟩=some (.string s)):=fun k s hk=>by
   have:=q1 (k+1) s (by simpa using hk)
   rwa [show o1+(k+1)=o1+1+k by omega,<-ho2 k (by have:=(aJ.1 hk).1;have:=HL.out;omega)] at this
  clear ho2
  have c0:∀o p,((w.alloc o).alloc p).cell? ⟨g1,o1,none⟩=some (.string y):=fun o p=>by
   have e:=q1 0 y rfl;exact((rY (rY (au w.heap.size w) (ai _) o) (by simp) p).cell (p:=⟨g1,o1,none⟩) (aC e)).trans e
  clear q1
  go_enter Tryz.func296,Tryz.ntmps296
  go_wp2_with fail
  have hbn:dP ((w.alloc (.cells #[.slice (some ⟨g1,o1,none⟩) (L+1) cap,rv] 349)).alloc (.cells #[.pointer none,.slice none 0 0] 379)) (w.heap.size+1) ⟨#[]⟩:=by
   have:=uW (w.alloc (.cells #[.slice (some ⟨g1,o1,none⟩) (L+1) cap,rv] 349))
   simpa using this
  refine(rG _ _ y _ hbn (by show 0+y.size<=_;omega)).mono ?_;rintro e w1 ⟨rfl,hb1,hb2⟩;have HB0:Hid (Below (w.heap.size+1) (w.alloc (.cells #[.slice (some ⟨g1,o1,none⟩) (L+1) cap,rv] 349)) w1):=((au _ _).alloc (by simp) _).trans hb2;have HB1:=aP hb1;clear hb1 hb2 hbn c0
  go_wp2_with fail
  refine(xA _ _ 0 _ rfl _ HB1.out (by rw[aH];show 0+y.size+1<=_;omega)).mono ?_;rintro e w2 ⟨rfl,hb1,hb2⟩;have HB2:=aP (HB0.out.trans hb2)
  have HB3:Hid (dP w2 (w.heap.size+1) (y++⟨#[0]⟩)):=by
   show dP _ _ _
   rwa [show(ByteArray.mk #[])=ByteArray.empty from rfl,ByteArray.empty_append] at hb1
  have x0:w2.cell? ⟨w.heap.size,0,none⟩=some (.slice (some ⟨g1,o1,none⟩) (L+1) cap):=(HB2.out.cell (p:=⟨w.heap.size,0,none⟩) (by simp)).trans (by simp);clear hb1 hb2 HB0 HB1
  go_wp2_with fail
  go_loopw [23] (fun i wr=>∃(j:Nat) (t:ah),i=.int .i64 j/\j<=L/\t.size<=(j+2)*1048581/\dP wr (w.heap.size+1) t/\Below (w.heap.size+1) (w.alloc (.cells #[.slice (some ⟨g1,o1,none⟩) (L+1) cap,rv] 349)) wr/\wZ f (q.drop j) t=wZ f q (y++⟨#[0]⟩)) (fun i _=>L-(intOf i).toNat)
  case atStart=>
   refine⟨0,_,rfl,aN _,?_,HB3.out,HB2.out,rfl⟩;rw[aH];show y.size+1<=_;omega
  case round=>
   obtain⟨j,t,rfl,hle,hts,hbu,hbw,hha⟩:=hrel;have uM:=aP hbu;have lF:=aP hbw;have HHA:=aP hha;have CX:Hid (Below w.heap.size w wr):=((au _ _).alloc (ai _) _).trans (lF.out.mono (by omega));have y0:wr.cell? ⟨w.heap.size,0,none⟩=some (.slice (some ⟨g1,o1,none⟩) (L+1) cap):=(lF.out.cell (p:=⟨w.heap.size,0,none⟩) (by simp)).trans (by simp);have y1:wr.cell? ⟨w.heap.size,1,none⟩=some rv:=(lF.out.cell (p:=⟨w.heap.size,1,none⟩) (by simp)).trans (by simp);clear hbu hbw hha x0
   have j0:(0:Int)<=(j:Int):=by omega
   by_cases hlt:j<L
   ·have j1:(j:Int)<(L:Int):=by omega
    obtain⟨z,hz⟩:∃z,q[j]?=some z:=⟨q[j]'(by have:=HL.out;omega),by simp⟩;have r1:wr.cell? ⟨g1,o2+j,none⟩=some (.string z):=(CX.out.cell (p:=⟨g1,o2+j,none⟩) (aC (HQ.out j z hz))).trans (HQ.out j z hz)
    have HDP:Hid (q.drop j=z::q.drop (j+1)):=by
     obtain⟨h1,h2⟩:=aJ.1 hz;show _=_;rw[fA h1,h2]
    have HZS:=aP (wU.out z (aO hz));clear hz
    go_wp2_with fail
    refine(H.out.ask _ CX.out _ z HZS.out).mono ?_;rintro e w3 ⟨rfl,hb2⟩;have HC2:=aP hb2;have Yo:=aP (uM.out.below hb2);have HLT:=aP uM.out.lt;clear hb2;unfold mh
    cases hf:f z with
    |none=>
     have HN:Hid (Ar f (y::q)=none):=by
      show _=_;rw[Ar,<-HHA.out,HDP.out,wZ,hf];rfl
     simp only[jC,iN];clear hf
     go_wp2_with fail
     go_ret2;exact⟨by rw[HN.out];rfl,CX.out.trans (HC2.out.mono (by have:=HLT.out;omega))⟩
    |some d=>
     have Ev:Hid (wZ f (q.drop (j+1)) ((t++wY d.size)++d)=wZ f q (y++⟨#[0]⟩)):=by
      show _=_;rw[<-HHA.out,HDP.out,wZ,hf]
     have d0:(d.size:Int)<=1048576:=by have:=H.out.small _ d hf;omega
     simp only[bY,fT];clear hf
     have HT1:Hid (t.size+4<=140737488355328):=by show _<=_;omega
     have HT2:Hid ((t++wY d.size).size+d.size<=140737488355328):=by
      show _<=_;rw[aH];show t.size+4+d.size<=_;omega
     have HT3:Hid (((t++wY d.size)++d).size<=(j+1+2)*1048581):=by
      show _<=_;rw[aH,aH];show t.size+4+d.size<=_;omega
     go_wp2_with fail
     refine(zm d.size (by omega) _).mono ?_;rintro e w4 ⟨rfl,hb4⟩;have HC4:=aP hb4;have akb:=aP (Yo.out.below hb4);clear hb4
     go_wp2_with fail
     refine(rG _ t (wY d.size) _ akb.out HT1.out).mono ?_;rintro e w5 ⟨rfl,hb5,hb6⟩;have akc:=aP hb5;have HC5:=aP hb6;clear hb5 hb6
     go_wp2_with fail
     refine(rG _ _ d _ akc.out HT2.out).mono ?_;rintro e w6 ⟨rfl,hb5,hb6⟩;have akd:=aP hb5;have HC6:=aP hb6;have akz:=aP Yo.out.lt;clear hb5 hb6
     go_wp2_with fail
     refine⟨⟨j+1,_,by go_num,hlt,HT3.out,akd.out,(((lF.out.trans (HC2.out.mono (by have:=HLT.out;omega))).trans (HC4.out.mono (by have:=akz.out;omega))).trans HC5.out).trans HC6.out,Ev.out⟩,by simp[intOf];omega⟩
   obtain rfl:j=L:=by omega
   have HN:Hid (Ar f (y::q)=some (vH (gM t) 32)):=by
    show _=_;rw[Ar,<-HHA.out,kR (by have:=HL.out;omega),wZ];rfl
   go_wp2_with fail
   refine(uV _ t _ uM.out).mono ?_;rintro e w3 ⟨rfl,hb2,hb3⟩;have HC3:=aP hb3;have HLT:=aP hb2.lt;have HR3:Hid (jw w3):=HR.out.later (fun k hk=>((CX.out.trans (hb3.mono (by omega))).block k hk));clear hb2 hb3
   go_wp2_with fail
   refine(WS Ia t (by omega) _ HR3.out KJ).mono ?_;rintro e w4 ⟨st,hst,rfl,hb4⟩;have HC4:=aP hb4;clear hb4;have HST:=hst
   go_wp2_with fail
   refine(Zn (Az st.byte) st.byte (fun k hk=>WW _ k hk (kU _ (by decide))) _).mono ?_;rintro e w5 ⟨rfl,hb5⟩;have HC5:=aP hb5;have akN:=aP HC4.out.size;clear hb5
   go_wp2_with fail
   go_ret2;exact⟨by rw[HN.out];unfold gM;rw[<-HST.out];rfl,((CX.out.trans (HC3.out.mono (by omega))).trans (HC4.out.mono (by have:=HLT.out;omega))).trans (HC5.out.mono (by have:=HLT.out;have:=akN.out;omega))⟩
end
section
open Go.RowKit Go.Shelf
def KC:List ah->ah
 |[]=>⟨#[]⟩
 |x::q=>rW q x
theorem EK:∀(q:List ah) (x:ah),(rW q x).data.toList=x.data.toList++Lib.joinTail [32] (q.map (·.data.toList))
 |[],x=>by simp[rW,Lib.joinTail]
 |y::r,x=>by
  rw[rW,EK r]
  simp[Lib.joinTail,zZ]
theorem EM(M:Nat):∀(q:List ah) (x:ah),(∀y∈q,y.size<=M)->(rW q x).size<=x.size+q.length*(M+1)
 |[],x,_=>by simp[rW]
 |y::r,x,h=>by
  have h1:=EM M r ((x++⟨#[32]⟩)++y) (fun z hz=>h z (by simp[hz]));have h2:=h y (by simp);rw[rW];rw[aH,aH] at h1;have h3:(ByteArray.mk #[32]).size=1:=rfl;rw[aS,acE];omega
theorem KD(M:Nat)(l:List ah)(h:∀y∈l,y.size<=M):(KC l).size<=l.length*(M+1):=by
 cases l with
 |nil=>exact aN _
 |cons x q=>
  have h1:=EM M q x (fun z hz=>h z (by simp[hz]));have h2:=h x (by simp);rw[KC,aS,acE];omega
theorem abF(l:List ah)(v:Value)(w:aj)(h:bG w v l)(hl:l.length<=1048577)(hs:∀y∈l,y.size<=1048576):
  Calls Tryz.prog 200 #[v,.string ⟨#[32]⟩] w fun e w'=>e=.returned (.string (KC l))/\Below w.heap.size w w':=by
 obtain⟨ao,cap,rfl,hcap,h⟩:=h
 cases l with
 |nil=>
  refine(Any.strings_Join_none Tryz.lays156 Tryz.Builder_Extra_156 ao cap ⟨#[32]⟩ w).mono ?_;rintro e w' ⟨he,hw⟩;exact⟨he,by rw[hw];exact au _ _⟩
 |cons x q=>
  obtain⟨b,o,rfl,hc⟩:∃b o,ao=some ⟨b,o,none⟩/\∀k s,(x::q)[k]?=some s->w.cell? ⟨b,o+k,none⟩=some (.string s):=by
   rcases h with e|e
   ·cases e.2.1
   exact e
  have hj:Lib.join ((x::q).map (·.data.toList)) (ByteArray.mk #[32]).data.toList=(rW q x).data.toList:=by
   rw[mD,Lib.join_cons,EK]
  have hz:=KD 1048576 (x::q) hs;refine(Any.strings_Join Tryz.lays156 Tryz.Builder_Extra_156 b o cap (x::q) ⟨#[32]⟩ w hc (aC (hc 0 x rfl)) (by omega) hcap ?_).mono ?_
  ·rw[hj];show(rW q x).size<=_;have:(KC (x::q)).size=(rW q x).size:=rfl;omega
  rintro e w' ⟨he,hw⟩;refine⟨?_,hw⟩;rw[he,hj];rfl
theorem abb(r:List ah)(vw rv:Value)(w:aj)(hw:bG w vw r)(hl:r.length<=1048577)(hrs:∀d∈r,d.size<=1048576):
  Calls Tryz.prog 297 #[.agg #[vw,rv]] w fun e w'=>e=.returned (mh (some (Gi r)))/\Below w.heap.size w w':=by
 have HW:=aP hw;have HL:=aP hl;have HS:=aP hrs
 have HE:Hid (KC r++⟨#[10]⟩=Gi r):=by
  cases r with
  |nil=>rfl
  |cons x q=>rfl
 have hz:¬9223372036854775807<(KC r).size+1:=by have:=KD 1048576 r hrs;omega
 clear hw hl hrs;generalize hJ:KC r=J at*;have HJ:=aP hJ;clear hJ
 go_enter Tryz.func297,Tryz.ntmps297
 go_wp2_with fail
 refine(abF r vw _ (HW.out.gY ((au _ _).alloc (ai _) _)) HL.out HS.out).mono ?_;rintro e w2 ⟨rfl,hb2⟩;have HB:Hid (Below w.heap.size w w2):=((au _ _).alloc (ai _) _).trans (hb2.mono (by simp));clear hb2;rw[HJ.out]
 go_wp2_with fail
 go_ret2;exact⟨by rw[<-HE.out];rfl,HB.out⟩
end
section
open Go.RowKit Go.Shelf Go.Lib
theorem Vz(w:aj):PredAt Tryz.prog 294 #[] encR xh w:=fun W r _=>by
 unfold FnGives
 by_cases h:r=32
 ·subst h
  go_enter Tryz.func294,Tryz.ntmps294
  go_wp2
  go_ret;exact⟨rfl,0,rfl⟩
 have h1:¬(r:Int)=32:=by omega
 have h2:xh r=false:=by simpa[xh] using h
 go_enter Tryz.func294,Tryz.ntmps294
 go_wp2
 go_ret;exact⟨by rw[h2];simp[h1],0,rfl⟩
theorem UX(s:ah)(hs:s.size<=1048576)(w:aj):
  Calls Tryz.prog 220 #[.string s] w fun e w'=>∃A,e=.returned (.slice (some ⟨A,0,none⟩) (nP s).length (nP s).length)/\w.heap.size<=A/\w'.ownsRow w.heap.size 9 1 (.slice (some ⟨A,0,none⟩) (nP s).length (nP s).length) (nP s).length ((nP s).map Value.string)/\Below w.heap.size w w':=by
 have hC:=Any.strings_FieldsFunc Tryz.lays229 294 #[] (enters_of Tryz.func294 (by kernel_rfl) rfl) xh s w (by omega) (Vz w) (by kernel_rfl) (by kernel_rfl);rw[Qj s,show((zX s).map fun x=>s.extract x.1 x.2)=nP s from rfl] at hC;change Calls Tryz.prog 293 _ _ _ at hC
 go_enter Tryz.func220,Tryz.ntmps220
 go_wp2_with (go_at_call 293;refine hC.mono ?_;rintro e w' ⟨A,rfl,hA,hown,hb⟩)
 go_ret;exact⟨A,rfl,hA,hown,hb⟩
