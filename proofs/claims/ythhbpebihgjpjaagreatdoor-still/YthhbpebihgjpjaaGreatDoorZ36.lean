import Derived.Test.YthhbpebihgjpjaaGreatDoorZ13
import Derived.Test.YthhbpebihgjpjaaGreatDoorZ05
namespace Go.Proofs.YthhbpebihgjpjaaGreatDoor
set_option maxRecDepth 1000000
set_option maxHeartbeats 20000000
set_option linter.all false
section
open Go.RowKit
theorem Ho(f:ah->Option ah):∀(r:List ah) (acc out:ah),oh f r acc=some out->acc.size<=out.size
 |[],acc,out,h=>by
  obtain rfl:acc=out:=ax h;exact ai _
 |x::r,acc,out,h=>by
  rw[oh] at h
  split at h
  ·have:=Ho f r _ _ h;rw[aL] at this;omega
  cases h
theorem RY{f:ah->Option ah}{r:List ah}{acc:ah}(h:4000<acc.size):iY (oh f r acc)=none:=by
 unfold iY
 cases e:oh f r acc with
 |none=>rfl
 |some out=>
  have:=Ho f r acc out e;simp only[aaY];rw[aA aJ]
theorem adu(f:ah->Option ah)(r:List ah)(vw rv:Value)(w:ak)(h:Jt w rv f)(hw:bL w vw r)(hl:r.length<=1048577)(hrs:∀d∈r,d.size<=1048576):
  Calls Tryz.prog 295 #[.agg #[vw,rv]] w fun e w'=>e=.returned (mD (iY (oh f r ⟨#[]⟩)))/\Below w.heap.size w w':=by
 have H:=aV h;have HW:=aV hw;have wX:=aV hrs;clear hrs;obtain⟨ao,cap,hvw,hcap,hcell⟩:=hw
 have n0:(r.length:Int)<=1048577:=aJ
 generalize hL:r.length=L at*;have HL:=aV hL;subst hvw;clear h hcell hL
 go_enter Tryz.func295,Tryz.ntmps295
 go_wp2_with fail
 go_loopw [12] (fun i wr=>∃(j:Nat) (acc:ah),i=.int .i64 j/\j<=L/\acc.size<=4000/\dW wr (w.heap.size+1) acc/\Below (w.heap.size+1) (w.alloc (.cells #[.slice ao L cap,rv] 349)) wr/\iY (oh f (r.drop j) acc)=iY (oh f r ⟨#[]⟩)) (fun i _=>L-(intOf i).toNat)
 case atStart=>
  refine⟨0,⟨#[]⟩,rfl,aS _,bS,?_,?_,rfl⟩
  ·have:=uY (w.alloc (.cells #[.slice ao L cap,rv] 349))
   simpa using this
  exact(ay _ _).alloc eB _
 case round=>
  obtain⟨j,acc,rfl,hle,has,hbu,hbw,hct⟩:=hrel;have uP:=aV hbu;have lJ:=aV hbw;have HCT:=aV hct;have HB0:Hid (Below w.heap.size w wr):=((ay _ _).alloc (ai _) _).trans (lJ.out.mono aJ);have x0:wr.cell? ⟨w.heap.size,0,none⟩=some (.slice ao L cap):=(lJ.out.cell (p:=⟨w.heap.size,0,none⟩) eB).trans eB;have x1:wr.cell? ⟨w.heap.size,1,none⟩=some rv:=(lJ.out.cell (p:=⟨w.heap.size,1,none⟩) eB).trans eB;clear hbu hbw hct
  have j0:(0:Int)<=(j:Int):=aJ
  by_cases hlt:j<L
  ·have j1:(j:Int)<(L:Int):=aJ
   obtain⟨y,hy⟩:∃y,r[j]?=some y:=⟨r[j]'(by have:=HL.out;omega),eB⟩
   obtain⟨g1,o1,hao,q1⟩:∃b o,ao=some ⟨b,o,none⟩/\∀k s,r[k]?=some s->w.cell? ⟨b,o+k,none⟩=some (.string s):=by
    obtain⟨Bo,cap',e1,_,e|⟨b,o,e2,e3⟩⟩:=HW.out
    ·rw[e.2.1] at hy;simp at hy
    have:ao=Bo:=by injection e1
    exact⟨b,o,this.trans e2,e3⟩
   subst hao;have r1:wr.cell? ⟨g1,o1+j,none⟩=some (.string y):=(HB0.out.cell (p:=⟨g1,o1+j,none⟩) (aG (q1 j y hy))).trans (q1 j y hy)
   have HDP:Hid (r.drop j=y::r.drop (j+1)):=by
    obtain⟨h1,h2⟩:=aN.1 hy;show _=_;rw[fG h1,h2]
   have HYS:=aV (wX.out y (aU hy));clear q1 hy
   go_wp2_with fail
   refine(H.out.ask _ HB0.out _ y HYS.out).mono ?_;rintro e w2 ⟨rfl,hb2⟩;have HB2:=aV hb2;have Yp:=aV (uP.out.below hb2);have HLT:=aV uP.out.lt;clear hb2;unfold mD
   cases hf:f y with
   |none=>
    have HN:Hid (iY (oh f r ⟨#[]⟩)=none):=by
     show _=_;rw[<-HCT.out,HDP.out,oh,hf];rfl
    simp only[jG,iU];clear hf
    go_wp2_with fail
    go_ret2;exact⟨by rw[HN.out];rfl,HB0.out.trans (HB2.out.mono (by have:=HLT.out;omega))⟩
   |some d=>
    have Ew:Hid (iY (oh f (r.drop (j+1)) (acc++d))=iY (oh f r ⟨#[]⟩)):=by
     show _=_;rw[<-HCT.out,HDP.out,oh,hf]
    have d0:(d.size:Int)<=1048576:=by have:=H.out.small _ d hf;omega
    have a0:(acc.size:Int)<=4000:=aJ
    simp only[dm,gu];clear hf
    by_cases hbig:4000<acc.size+d.size
    ·have HN:Hid (iY (oh f r ⟨#[]⟩)=none):=by
      show _=_;rw[<-Ew.out];exact RY (by rw[aL];exact hbig)
     have b1:(4000:Int)<(acc.size:Int)+(d.size:Int):=aJ
     go_wp2_with fail
     refine(JQ _ acc _ Yp.out).mono ?_;rintro e w3 ⟨rfl,rfl⟩
     go_wp2_with fail
     go_ret2;exact⟨by rw[HN.out];rfl,HB0.out.trans (HB2.out.mono (by have:=HLT.out;omega))⟩
    have b1:¬(4000:Int)<(acc.size:Int)+(d.size:Int):=aJ
    have HS:Hid ((acc++d).size<=4000):=by
     show _<=_;rw[aL];omega
    have HQ:Hid (acc.size+d.size<=140737488355328):=by
     show _<=_;omega
    go_wp2_with fail
    refine(JQ _ acc _ Yp.out).mono ?_;rintro e w3 ⟨rfl,rfl⟩
    go_wp2_with fail
    refine(rO _ acc d _ Yp.out HQ.out).mono ?_;rintro e w4 ⟨rfl,hb4,hb5⟩;have xC:=aV hb4;have Bq:=aV hb5;clear hb4 hb5
    go_wp2_with fail
    refine⟨⟨j+1,acc++d,oW,hlt,HS.out,xC.out,(lJ.out.trans (HB2.out.mono (by have:=HLT.out;omega))).trans Bq.out,Ew.out⟩,by simp[intOf];omega⟩
  obtain rfl:j=L:=aJ
  have HN:Hid (iY (oh f r ⟨#[]⟩)=some acc):=by
   show _=_;rw[<-HCT.out,kV (by have:=HL.out;omega),oh];show(if acc.size<=4000 then some acc else none)=some acc;rw[aH has]
  go_wp2_with fail
  refine(uX _ acc _ uP.out).mono ?_;rintro e w2 ⟨rfl,hb2,hb3⟩;have HB3:=aV hb3;clear hb2 hb3
  go_wp2_with fail
  go_ret2;exact⟨by rw[HN.out];rfl,HB0.out.trans (HB3.out.mono aJ)⟩
theorem Ns{P:Program}(w:ak)(t e:TypeId)(n:Nat)(cs:Array Value)(k:IntKind)(i:Nat)(v:Value)(h:P.underlying t=some (.array n e))(hs:∀w,(Go.sizeOf e).run P w=.ok 1 w)(ha:∀w,(isAgg e).run P w=.ok false w)(hi:i<n)(hv:cs[i]?=some v):
  (Instr.index t (.agg cs) (.int k i)).run P w=.ok v w:=by
 have h1:(0:Int)<=(i:Int)/\(i:Int)<(n:Int):=aJ
 simp[Instr.index,ny h,asIntOf,hi,hv,hs,ha,go_sem]
theorem adF:∀x,x<256->bits .and .u8 (x:Nat) 15=((x % 16:Nat):Int):=by decide+kernel
theorem Kt(s:ah):∀j,(vJ s j).size=2*j
 |0=>rfl
 |j+1=>by
  rw[vJ,aL,aL,Kt s j];show 2*j+1+1=_;omega
theorem JZ(h:Nat)(hh:h<16)(p:h<(ByteArray.mk #[48,49,50,51,52,53,54,55,56,57,97,98,99,100,101,102]).size):((((ByteArray.mk #[48,49,50,51,52,53,54,55,56,57,97,98,99,100,101,102])[h]'p).toNat:Nat):Int)=((ES h).toNat:Int):=by
 have:h=0\/h=1\/h=2\/h=3\/h=4\/h=5\/h=6\/h=7\/h=8\/h=9\/h=10\/h=11\/h=12\/h=13\/h=14\/h=15:=aJ
 rcases this with rfl|rfl|rfl|rfl|rfl|rfl|rfl|rfl|rfl|rfl|rfl|rfl|rfl|rfl|rfl|rfl<;>rfl
theorem Zo(s:ah)(f:Nat->Nat)(hf:∀k,k<32->f k=(s.get! k).toNat)(w:ak):
  Calls Tryz.prog 328 #[.agg (kK f)] w fun e w'=>e=.returned (.string (vJ s 32))/\Below w.heap.size w w':=by
 have HF:=aV hf
 have i32:(Tryz.prog.info? 217).map (·.size)=some 32:=dD
 have hz:(kK f).size=32:=sZ f
 have HOX:Hid (∀(k:Nat) wx,k<32->(Instr.index 217 (.agg (kK f)) (.int .i64 k)).run Tryz.prog wx=.ok (.int .u8 (f k)) wx):=fun k wx hk=>Ns wx _ _ 32 _ _ k _ Tryz.underlying217 Tryz.sizeOf5 Tryz.isAgg5 hk (Fs f k hk)
 clear hf;obtain⟨V,hV⟩:∃V,V=kK f:=⟨_,rfl⟩;rw[<-hV] at hz HOX⊢;clear hV
 go_enter Tryz.func328,Tryz.ntmps328
 go_wp2_with (refine gT rfl 217 _ rfl w.heap.size rfl 217 V (0,0) _ (by exact(bC _ _ _ eB).trans (bq _ _ _ rfl)) Tryz.underlying217 rfl (by rw[hz];exact i32) ?_)
 go_loopw [7] (fun i wr=>∃(j:Nat),i=.int .i64 j/\j<=32/\dW wr (w.heap.size+1) (vJ s j)/\Below w.heap.size w wr) (fun i _=>32-(intOf i).toNat)
 case atStart=>
  refine⟨0,rfl,aJ,?_,(((ay _ _).alloc (ai _) _).alloc eB _)⟩;have:=uY (w.alloc (.cells V 217))
  simpa[vJ] using this
 case round=>
  obtain⟨j,rfl,hle,hbu,hbw⟩:=hrel;have uP:=aV hbu;have lJ:=aV hbw;clear hbu hbw
  have j0:(0:Int)<=(j:Int):=aJ
  by_cases hlt:j<32
  ·have j1:(j:Int)<32:=aJ
   have hox:∀wx,(Instr.index 217 (.agg V) (.int .i64 j)).run Tryz.prog wx=.ok (.int .u8 (f j)) wx:=fun wx=>HOX.out j wx hlt
   have HX:=aV (HF.out j hlt)
   have Yx:Hid (f j<256):=by show _<_;rw[HX.out];exact UInt8.toNat_lt _
   generalize f j=x at*
   have x0:(x:Int)<256:=by have:=Yx.out;omega
   have hlo:=adF x Yx.out
   go_wp2_with fail
   refine(xE _ _ (ES (x/16)) _ (JZ _ (by have:=Yx.out;omega) _) _ uP.out (by rw[Kt];omega)).mono ?_;rintro e w2 ⟨rfl,hb2,hb3⟩;have HB2:=aV hb2;have HB3:=aV hb3;clear hb2 hb3
   go_wp2_with fail
   refine(xE _ _ (ES (x % 16)) _ (JZ _ aJ _) _ HB2.out (by rw[aL,Kt];show 2*j+1+1<=_;omega)).mono ?_;rintro e w3 ⟨rfl,hb4,hb5⟩
   have xC:Hid (dW w3 (w.heap.size+1) (vJ s (j+1))):=by
    show dW _ _ _;rw[vJ,<-HX.out];exact hb4
   have Bq:=aV hb5;clear hb4 hb5
   go_wp2_with fail
   exact⟨⟨j+1,oW,hlt,xC.out,(lJ.out.trans (HB3.out.mono aJ)).trans (Bq.out.mono aJ)⟩,by simp[intOf];omega⟩
  obtain rfl:j=32:=aJ
  go_wp2_with fail
  refine(uX _ _ _ uP.out).mono ?_;rintro e w2 ⟨rfl,hb2,hb3⟩;have HB3:=aV hb3;clear hb2 hb3
  go_wp2_with fail
  go_ret;exact⟨rfl,lJ.out.trans (HB3.out.mono aJ)⟩
theorem WX(f:Nat->Nat)(k:Nat)(hk:k<32)(hf:f k<256):f k=((AB f).get! k).toNat:=by
 have:(AB f).get! k=UInt8.ofNat (f k):=by
  show(((List.range 32).map fun j=>UInt8.ofNat (f j)).toArray)[k]! =_;rw[getElem!_pos _ _ (by simpa using hk)]
  simp
 rw[this,Vt];exact(aaX hf).symm
theorem abl(f:ah->Option ah)(r:List ah)(vw rv:Value)(w:ak)(h:Jt w rv f)(hw:bL w vw r)(hl:r.length<=1048577)(hrs:∀d∈r,d.size<=1048576)(hR:jC w):
  Calls Tryz.prog 296 #[.agg #[vw,rv]] w fun e w'=>e=.returned (mD (Av f r))/\Below w.heap.size w w':=by
 have H:=aV h;have HW:=aV hw;have HR:=aV hR;obtain⟨ao,cap,hvw,hcap,hcell⟩:=hw;subst hvw;clear h hcell hR
 cases r with
 |nil=>
  clear hrs
  go_enter Tryz.func296,Tryz.ntmps296
  go_wp2_with fail
  go_ret2;exact⟨rfl,(ay _ _).alloc (ai _) _⟩
 |cons y q=>
  have hy:(y.size:Int)<=1048576:=by have:=hrs y eB;omega
  have wX:Hid (∀d∈q,d.size<=1048576):=fun d hd=>hrs d (aZ _ hd)
  clear hrs;obtain⟨L,hL⟩:∃L,L=q.length:=⟨_,rfl⟩;have HL:=aV hL;simp only[aY] at hl hcap⊢;rw[<-hL] at hl hcap⊢;clear hL
  have n0:(L:Int)<=1048576:=aJ
  have n1:(L:Int)+1<=(cap:Int):=aJ
  have n2:¬((L:Int)+1=0):=aJ
  obtain⟨g1,o1,hao,q1⟩:∃b o,ao=some ⟨b,o,none⟩/\∀k s,(y::q)[k]?=some s->w.cell? ⟨b,o+k,none⟩=some (.string s):=by
   obtain⟨Bo,cap',e1,_,e|⟨b,o,e2,e3⟩⟩:=HW.out
   ·cases e.2.1
   have:ao=Bo:=by injection e1
   exact⟨b,o,this.trans e2,e3⟩
  subst hao;obtain⟨o2,ho2,hsl⟩:=LM g1 o1 L cap hcap
  have HQ:Hid (∀k s,q[k]?=some s->w.cell? ⟨g1,o2+k,none⟩=some (.string s)):=fun k s hk=>by
   have:=q1 (k+1) s (by simpa using hk)
   rwa [show o1+(k+1)=o1+1+k by omega,<-ho2 k (by have:=(aN.1 hk).1;have:=HL.out;omega)] at this
  clear ho2
  have c0:∀o p,((w.alloc o).alloc p).cell? ⟨g1,o1,none⟩=some (.string y):=fun o p=>by
   have e:=q1 0 y rfl;exact((su (su (ay w.heap.size w) (ai _) o) eB p).cell (p:=⟨g1,o1,none⟩) (aG e)).trans e
  clear q1
  go_enter Tryz.func296,Tryz.ntmps296
  go_wp2_with fail
  have hbn:dW ((w.alloc (.cells #[.slice (some ⟨g1,o1,none⟩) (L+1) cap,rv] 349)).alloc (.cells #[.pointer none,.slice none 0 0] 379)) (w.heap.size+1) ⟨#[]⟩:=by
   have:=uY (w.alloc (.cells #[.slice (some ⟨g1,o1,none⟩) (L+1) cap,rv] 349))
   simpa using this
  refine(rO _ _ y _ hbn (by show 0+y.size<=_;omega)).mono ?_;rintro e w1 ⟨rfl,hb1,hb2⟩;have HB0:Hid (Below (w.heap.size+1) (w.alloc (.cells #[.slice (some ⟨g1,o1,none⟩) (L+1) cap,rv] 349)) w1):=((ay _ _).alloc eB _).trans hb2;have HB1:=aV hb1;clear hb1 hb2 hbn c0
  go_wp2_with fail
  refine(xE _ _ 0 _ rfl _ HB1.out (by rw[aL];show 0+y.size+1<=_;omega)).mono ?_;rintro e w2 ⟨rfl,hb1,hb2⟩;have HB2:=aV (HB0.out.trans hb2)
  have HB3:Hid (dW w2 (w.heap.size+1) (y++⟨#[0]⟩)):=by
   show dW _ _ _
   rwa [show(ByteArray.mk #[])=ByteArray.empty from rfl,ByteArray.empty_append] at hb1
  have x0:w2.cell? ⟨w.heap.size,0,none⟩=some (.slice (some ⟨g1,o1,none⟩) (L+1) cap):=(HB2.out.cell (p:=⟨w.heap.size,0,none⟩) eB).trans eB;clear hb1 hb2 HB0 HB1
  go_wp2_with fail
  go_loopw [23] (fun i wr=>∃(j:Nat) (t:ah),i=.int .i64 j/\j<=L/\t.size<=(j+2)*1048581/\dW wr (w.heap.size+1) t/\Below (w.heap.size+1) (w.alloc (.cells #[.slice (some ⟨g1,o1,none⟩) (L+1) cap,rv] 349)) wr/\xq f (q.drop j) t=xq f q (y++⟨#[0]⟩)) (fun i _=>L-(intOf i).toNat)
  case atStart=>
   refine⟨0,_,rfl,aS _,?_,HB3.out,HB2.out,rfl⟩;rw[aL];show y.size+1<=_;omega
  case round=>
   obtain⟨j,t,rfl,hle,hts,hbu,hbw,hha⟩:=hrel;have uP:=aV hbu;have lJ:=aV hbw;have HHA:=aV hha;have CY:Hid (Below w.heap.size w wr):=((ay _ _).alloc (ai _) _).trans (lJ.out.mono aJ);have y0:wr.cell? ⟨w.heap.size,0,none⟩=some (.slice (some ⟨g1,o1,none⟩) (L+1) cap):=(lJ.out.cell (p:=⟨w.heap.size,0,none⟩) eB).trans eB;have y1:wr.cell? ⟨w.heap.size,1,none⟩=some rv:=(lJ.out.cell (p:=⟨w.heap.size,1,none⟩) eB).trans eB;clear hbu hbw hha x0
   have j0:(0:Int)<=(j:Int):=aJ
   by_cases hlt:j<L
   ·have j1:(j:Int)<(L:Int):=aJ
    obtain⟨z,hz⟩:∃z,q[j]?=some z:=⟨q[j]'(by have:=HL.out;omega),eB⟩;have r1:wr.cell? ⟨g1,o2+j,none⟩=some (.string z):=(CY.out.cell (p:=⟨g1,o2+j,none⟩) (aG (HQ.out j z hz))).trans (HQ.out j z hz)
    have HDP:Hid (q.drop j=z::q.drop (j+1)):=by
     obtain⟨h1,h2⟩:=aN.1 hz;show _=_;rw[fG h1,h2]
    have HZS:=aV (wX.out z (aU hz));clear hz
    go_wp2_with fail
    refine(H.out.ask _ CY.out _ z HZS.out).mono ?_;rintro e w3 ⟨rfl,hb2⟩;have HC2:=aV hb2;have Yp:=aV (uP.out.below hb2);have HLT:=aV uP.out.lt;clear hb2;unfold mD
    cases hf:f z with
    |none=>
     have HN:Hid (Av f (y::q)=none):=by
      show _=_;rw[Av,<-HHA.out,HDP.out,xq,hf];rfl
     simp only[jG,iU];clear hf
     go_wp2_with fail
     go_ret2;exact⟨by rw[HN.out];rfl,CY.out.trans (HC2.out.mono (by have:=HLT.out;omega))⟩
    |some d=>
     have Ew:Hid (xq f (q.drop (j+1)) ((t++xk d.size)++d)=xq f q (y++⟨#[0]⟩)):=by
      show _=_;rw[<-HHA.out,HDP.out,xq,hf]
     have d0:(d.size:Int)<=1048576:=by have:=H.out.small _ d hf;omega
     simp only[dm,gu];clear hf
     have HT1:Hid (t.size+4<=140737488355328):=by show _<=_;omega
     have HT2:Hid ((t++xk d.size).size+d.size<=140737488355328):=by
      show _<=_;rw[aL];show t.size+4+d.size<=_;omega
     have HT3:Hid (((t++xk d.size)++d).size<=(j+1+2)*1048581):=by
      show _<=_;rw[aL,aL];show t.size+4+d.size<=_;omega
     go_wp2_with fail
     refine(zq d.size aJ _).mono ?_;rintro e w4 ⟨rfl,hb4⟩;have HC4:=aV hb4;have akb:=aV (Yp.out.below hb4);clear hb4
     go_wp2_with fail
     refine(rO _ t (xk d.size) _ akb.out HT1.out).mono ?_;rintro e w5 ⟨rfl,hb5,hb6⟩;have akc:=aV hb5;have HC5:=aV hb6;clear hb5 hb6
     go_wp2_with fail
     refine(rO _ _ d _ akc.out HT2.out).mono ?_;rintro e w6 ⟨rfl,hb5,hb6⟩;have akd:=aV hb5;have HC6:=aV hb6;have akz:=aV Yp.out.lt;clear hb5 hb6
     go_wp2_with fail
     refine⟨⟨j+1,_,oW,hlt,HT3.out,akd.out,(((lJ.out.trans (HC2.out.mono (by have:=HLT.out;omega))).trans (HC4.out.mono (by have:=akz.out;omega))).trans HC5.out).trans HC6.out,Ew.out⟩,by simp[intOf];omega⟩
   obtain rfl:j=L:=aJ
   have HN:Hid (Av f (y::q)=some (vJ (gW t) 32)):=by
    show _=_;rw[Av,<-HHA.out,kV (by have:=HL.out;omega),xq];rfl
   go_wp2_with fail
   refine(uX _ t _ uP.out).mono ?_;rintro e w3 ⟨rfl,hb2,hb3⟩;have HC3:=aV hb3;have HLT:=aV hb2.lt;have HR3:Hid (jC w3):=HR.out.later (fun k hk=>((CY.out.trans (hb3.mono aJ)).block k hk));clear hb2 hb3
   go_wp2_with fail
   refine(WT Ib t aJ _ HR3.out KJ).mono ?_;rintro e w4 ⟨st,hst,rfl,hb4⟩;have HC4:=aV hb4;clear hb4;have HST:=hst
   go_wp2_with fail
   refine(Zo (AB st.byte) st.byte (fun k hk=>WX _ k hk (kY _ bS)) _).mono ?_;rintro e w5 ⟨rfl,hb5⟩;have HC5:=aV hb5;have akN:=aV HC4.out.size;clear hb5
   go_wp2_with fail
   go_ret2;exact⟨by rw[HN.out];unfold gW;rw[<-HST.out];rfl,((CY.out.trans (HC3.out.mono aJ)).trans (HC4.out.mono (by have:=HLT.out;omega))).trans (HC5.out.mono (by have:=HLT.out;have:=akN.out;omega))⟩
end
section
open Go.RowKit Go.Shelf
def KC:List ah->ah
 |[]=>⟨#[]⟩
 |x::q=>rZ q x
theorem EM:∀(q:List ah) (x:ah),(rZ q x).data.toList=x.data.toList++Lib.joinTail [32] (q.map (·.data.toList))
 |[],x=>by simp[rZ,Lib.joinTail]
 |y::r,x=>by
  rw[rZ,EM r]
  simp[Lib.joinTail,Ab]
theorem EN(M:Nat):∀(q:List ah) (x:ah),(∀y∈q,y.size<=M)->(rZ q x).size<=x.size+q.length*(M+1)
 |[],x,_=>by simp[rZ]
 |y::r,x,h=>by
  have h1:=EN M r ((x++⟨#[32]⟩)++y) (fun z hz=>h z (by simp[hz]));have h2:=h y eB;rw[rZ];rw[aL,aL] at h1;have h3:(ByteArray.mk #[32]).size=1:=rfl;rw[aY,acF];omega
theorem KD(M:Nat)(l:List ah)(h:∀y∈l,y.size<=M):(KC l).size<=l.length*(M+1):=by
 cases l with
 |nil=>exact aS _
 |cons x q=>
  have h1:=EN M q x (fun z hz=>h z (by simp[hz]));have h2:=h x eB;rw[KC,aY,acF];omega
theorem abH(l:List ah)(v:Value)(w:ak)(h:bL w v l)(hl:l.length<=1048577)(hs:∀y∈l,y.size<=1048576):
  Calls Tryz.prog 200 #[v,.string ⟨#[32]⟩] w fun e w'=>e=.returned (.string (KC l))/\Below w.heap.size w w':=by
 obtain⟨ao,cap,rfl,hcap,h⟩:=h
 cases l with
 |nil=>
  refine(Any.strings_Join_none Tryz.lays156 Tryz.Builder_Extra_156 ao cap ⟨#[32]⟩ w).mono ?_;rintro e w' ⟨he,hw⟩;exact⟨he,by rw[hw];exact ay _ _⟩
 |cons x q=>
  obtain⟨b,o,rfl,hc⟩:∃b o,ao=some ⟨b,o,none⟩/\∀k s,(x::q)[k]?=some s->w.cell? ⟨b,o+k,none⟩=some (.string s):=by
   rcases h with e|e
   ·cases e.2.1
   exact e
  have hj:Lib.join ((x::q).map (·.data.toList)) (ByteArray.mk #[32]).data.toList=(rZ q x).data.toList:=by
   rw[mJ,Lib.join_cons,EM]
  have hz:=KD 1048576 (x::q) hs;refine(Any.strings_Join Tryz.lays156 Tryz.Builder_Extra_156 b o cap (x::q) ⟨#[32]⟩ w hc (aG (hc 0 x rfl)) aJ hcap ?_).mono ?_
  ·rw[hj];show(rZ q x).size<=_;have:(KC (x::q)).size=(rZ q x).size:=rfl;omega
  rintro e w' ⟨he,hw⟩;refine⟨?_,hw⟩;rw[he,hj];rfl
theorem abe(r:List ah)(vw rv:Value)(w:ak)(hw:bL w vw r)(hl:r.length<=1048577)(hrs:∀d∈r,d.size<=1048576):
  Calls Tryz.prog 297 #[.agg #[vw,rv]] w fun e w'=>e=.returned (mD (some (Gj r)))/\Below w.heap.size w w':=by
 have HW:=aV hw;have HL:=aV hl;have HS:=aV hrs
 have HE:Hid (KC r++⟨#[10]⟩=Gj r):=by
  cases r with
  |nil=>rfl
  |cons x q=>rfl
 have hz:¬9223372036854775807<(KC r).size+1:=by have:=KD 1048576 r hrs;omega
 clear hw hl hrs;generalize hJ:KC r=J at*;have HJ:=aV hJ;clear hJ
 go_enter Tryz.func297,Tryz.ntmps297
 go_wp2_with fail
 refine(abH r vw _ (HW.out.iy ((ay _ _).alloc (ai _) _)) HL.out HS.out).mono ?_;rintro e w2 ⟨rfl,hb2⟩;have HB:Hid (Below w.heap.size w w2):=((ay _ _).alloc (ai _) _).trans (hb2.mono eB);clear hb2;rw[HJ.out]
 go_wp2_with fail
 go_ret2;exact⟨by rw[<-HE.out];rfl,HB.out⟩
end
section
open Go.RowKit Go.Shelf Go.Lib
theorem VA(w:ak):PredAt Tryz.prog 294 #[] encR xw w:=fun W r _=>by
 unfold FnGives
 by_cases h:r=32
 ·subst h
  go_enter Tryz.func294,Tryz.ntmps294
  go_wp2
  go_ret;exact⟨rfl,0,rfl⟩
 have h1:¬(r:Int)=32:=aJ
 have h2:xw r=false:=by simpa[xw] using h
 go_enter Tryz.func294,Tryz.ntmps294
 go_wp2
 go_ret;exact⟨by rw[h2];simp[h1],0,rfl⟩
theorem UZ(s:ah)(hs:s.size<=1048576)(w:ak):
  Calls Tryz.prog 220 #[.string s] w fun e w'=>∃A,e=.returned (.slice (some ⟨A,0,none⟩) (nT s).length (nT s).length)/\w.heap.size<=A/\w'.ownsRow w.heap.size 9 1 (.slice (some ⟨A,0,none⟩) (nT s).length (nT s).length) (nT s).length ((nT s).map Value.string)/\Below w.heap.size w w':=by
 have hC:=Any.strings_FieldsFunc Tryz.lays229 294 #[] (enters_of Tryz.func294 dD rfl) xw s w aJ (VA w) dD dD;rw[Ql s,show((zZ s).map fun x=>s.extract x.1 x.2)=nT s from rfl] at hC;change Calls Tryz.prog 293 _ _ _ at hC
 go_enter Tryz.func220,Tryz.ntmps220
 go_wp2_with (go_at_call 293;refine hC.mono ?_;rintro e w' ⟨A,rfl,hA,hown,hb⟩)
 go_ret;exact⟨A,rfl,hA,hown,hb⟩
end
end Go.Proofs.YthhbpebihgjpjaaGreatDoor
