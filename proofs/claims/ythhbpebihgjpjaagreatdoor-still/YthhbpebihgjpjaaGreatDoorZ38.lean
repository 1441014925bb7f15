import Derived.Test.YthhbpebihgjpjaaGreatDoorZ36
import Derived.Test.YthhbpebihgjpjaaGreatDoorZ37
import Derived.Test.YthhbpebihgjpjaaGreatDoorZ31
import Derived.Test.YthhbpebihgjpjaaGreatDoorZ11
namespace Go.Proofs.YthhbpebihgjpjaaGreatDoor
set_option maxRecDepth 1000000
set_option maxHeartbeats 20000000
set_option linter.all false
section
open Go.RowKit
theorem zh(s:ah):∀g i fr acc,(kM s g i fr acc).length<=acc.length+g
 |0,_,_,_=>ai _
 |g+1,i,fr,acc=>by
  rw[kM]
  split
  ·have:=zh s g (i+1) fr acc;omega
  have:=zh s g (i+1) (i+1) (if fr<i then acc++[(fr,i)] else acc)
  have h2:(if fr<i then acc++[(fr,i)] else acc).length<=acc.length+1:=by
   split
   ·simp
   omega
  omega
theorem Qa(o:Option ah):iY (iY o)=iY o:=by
 cases o with
 |none=>rfl
 |some x=>
  unfold iY;simp only[aaY]
  split
  ·rename_i h
   simp[h]
  rfl
variable {x:ah}
theorem BJ(h:x.size<=4000):iY (some x)=some x:=by simp[iY,h]
theorem BI(h:¬x.size<=4000):iY (some x)=none:=by simp[iY,h]
theorem toList_eq{l:List UInt8}(h:(x.toList==l)=true):x=⟨l.toArray⟩:=by
 have h1:x.toList=l:=by simpa using h
 have h2:(ByteArray.mk l.toArray).toList=l:=by rw[eG]
 exact xL (a:=x) (b:=⟨l.toArray⟩) (by rw[h1,h2];simp)
theorem VN(f:ah->Option ah)(x:ah)(r:List ah):
  (Gi x=none/\qc f (x::r)=none)\/(Gi x=some aa9/\qc f (x::r)=oh f r ⟨#[]⟩)\/(Gi x=some SN/\qc f (x::r)=Av f r)\/(Gi x=some Sm/\qc f (x::r)=some (Gj r)):=by
 have tl:∀l:List UInt8,(ByteArray.mk l.toArray).toList=l:=fun l=>by rw[eG]
 by_cases q1:(x.toList==[99,97,116])=true
 ·refine aP (aK ⟨?_,by rw[qc,aH q1]⟩);obtain rfl:=toList_eq q1;rfl
 by_cases q2:(x.toList==[104,97,115,104])=true
 ·refine aP (aP (aK ⟨?_,by rw[qc,aA q1,aH q2]⟩));obtain rfl:=toList_eq q2;rfl
 by_cases q3:(x.toList==[101,99,104,111])=true
 ·refine aP (aP (aP ⟨?_,by rw[qc,aA q1,aA q2,aH q3]⟩));obtain rfl:=toList_eq q3;rfl
 refine aK ⟨?_,by rw[qc,aA q1,aA q2,aA q3]⟩;unfold Gi;rw[aA,aA,aA]
 ·rintro rfl;exact q1 (by rw[show(ByteArray.mk #[99,97,116])=⟨[99,97,116].toArray⟩ from rfl,tl];rfl)
 ·rintro rfl;exact q2 (by rw[show(ByteArray.mk #[104,97,115,104])=⟨[104,97,115,104].toArray⟩ from rfl,tl];rfl)
 rintro rfl;exact q3 (by rw[show(ByteArray.mk #[101,99,104,111])=⟨[101,99,104,111].toArray⟩ from rfl,tl];rfl)
theorem aee(s:ah)(hs:s.size<=1048576)(f:ah->Option ah)(rv:Value)(w:ak)(h:Jt w rv f)(hR:jC w):
  Calls Tryz.prog 136 #[.string s,rv] w fun e w'=>e=.returned (mD (iY (qc f (nT s))))/\Below w.heap.size w w':=by
 obtain⟨kf,cf,rfl⟩:=h.form;have H:=aV h;have HR:=aV hR;have HS:=aV hs;clear h hR
 have HWL:Hid ((nT s).length<=1048577):=by
  show _<=_;unfold nT zZ;rw[jV];have:=zh s (s.size+1) 0 0 []
  simp at this
  omega
 have Px:Hid (∀y∈nT s,y.size<=1048576):=fun y hy=>by
  obtain⟨p,_,rfl⟩:=fP.1 hy;rw[aM];omega
 clear hs
 go_enter Tryz.func136,Tryz.ntmps136
 go_wp2_with fail
 refine(UZ s HS.out _).mono ?_;rintro e w1 ⟨A,rfl,hA,hown,hb1⟩;have HTW:=aV (mZ hown);have HB1:=aV hb1;obtain⟨W,hWE⟩:∃W,nT s=W:=⟨_,rfl⟩;have HWE:=aV hWE;rw[hWE] at HTW HWL Px⊢;clear hWE hown hb1 hA
 cases W with
 |nil=>
  go_wp2_with fail
  go_ret2;exact⟨by rw[HWE.out];rfl,HB1.out⟩
 |cons x r=>
  obtain⟨L,hL⟩:∃L,L=r.length:=⟨_,rfl⟩;have HL:=aV hL
  have HC:Hid (∀k s,(x::r)[k]?=some s->w1.cell? ⟨A,k,none⟩=some (.string s)):=by
   obtain⟨Bo,cap',e1,_,e|⟨b,o,e2,e3⟩⟩:=HTW.out
   ·cases e.2.1
   intro k s hk;injection e1 with e1;rw[e2] at e1;injection e1 with e1;injection e1 with e1 e4;subst e1 e4
   simpa using e3 k s hk
  simp only[aY];rw[<-hL];clear hL
  have l0:¬((L:Int)+1=0):=aJ
  have l1:(0:Int)<(L:Int)+1:=aJ
  have hl:L<=1048576:=by have:=HWL.out;have:=HL.out;simp at*;omega
  have c0:w1.cell? ⟨A,0,none⟩=some (.string x):=HC.out 0 x rfl;obtain⟨o2,ho2,hsl⟩:=LM A 0 L (L+1) (ai _)
  have hxz:x.size<=maxLen:=by have:=Px.out x eB;unfold maxLen;omega
  have HXZ:=aV hxz;clear hxz
  rcases VN f x r with ⟨hd,hrr⟩|⟨hd,hrr⟩|⟨hd,hrr⟩|⟨hd,hrr⟩
  ·have HRR:Hid (iY (qc f (nT s))=none):=by
    show _=_;rw[HWE.out,hrr];rfl
   have HD:=aV hd;clear hd hrr
   go_wp2_with fail
   go_region_with (go_at_call 221;refine(Cq _).mono ?_;rintro e w2 ⟨mb,rfl,hm,hb2⟩;have c2:w2.cell? ⟨A,0,none⟩=some (.string x):=(hb2.cell (p:=⟨A,0,none⟩) (aG c0)).trans c0;have k0:=hm.look_ok Tryz.underlying346 Tryz.zeroValue344 x HXZ.out;rw[HD.out] at k0;simp only[jG,iU] at k0)
   all_goals
    have HB2:Hid (Below w1.heap.size w1 w2):=(ay _ _).drew.trans hb2;clear hb2 hm k0
    go_wp2_with fail
    go_ret2;exact⟨by rw[HRR.out];rfl,HB1.out.trans (HB2.out.mono HB1.out.size)⟩
  ·have HRR:Hid (iY (qc f (nT s))=iY (iY (oh f r ⟨#[]⟩))):=by
    show _=_;rw[HWE.out,hrr,Qa]
   have HD:=aV hd;clear hd hrr
   go_wp2_with fail
   go_region_with (go_at_call 221;refine(Cq _).mono ?_;rintro e w2 ⟨mb,rfl,hm,hb2⟩;have c2:w2.cell? ⟨A,0,none⟩=some (.string x):=(hb2.cell (p:=⟨A,0,none⟩) (aG c0)).trans c0;have k0:=hm.look_ok Tryz.underlying346 Tryz.zeroValue344 x HXZ.out;rw[HD.out] at k0;simp only[dm,gu] at k0)
   all_goals
    have HB2:Hid (Below w1.heap.size w1 w2):=(ay _ _).drew.trans hb2;have HR2:=aV (H.out.iy (HB1.out.trans (HB2.out.mono HB1.out.size)))
    have HT2:Hid (bL w2 (.slice (some ⟨A,o2,none⟩) L L) r):=⟨_,_,by rw[HL.out],dG HL.out.symm,aP ⟨A,o2,rfl,fun k s hk=>by
     have e:=HC.out (k+1) s (by simpa using hk);rw[show k+1=o2+k by have:=ho2 k (by rw[HL.out];exact(aN.1 hk).1);omega] at e
     exact(HB2.out.cell (p:=⟨A,o2+k,none⟩) (aG e)).trans e⟩⟩
    have HL2:Hid (r.length<=1048577):=by have:=HL.out;show _<=_;omega
    have HS2:Hid (∀d∈r,d.size<=1048576):=fun d hd=>Px.out d (by simp[hd])
    have HO2:Hid (jC w2):=HR.out.later (fun k hk=>((HB1.out.trans (HB2.out.mono HB1.out.size)).block k hk));clear hb2 hm k0;unfold aa9
    go_wp2_with fail
    refine(adu f r _ _ _ HR2.out HT2.out HL2.out HS2.out).mono ?_;rintro e w3 ⟨rfl,hb3⟩;have HB3:=aV ((HB1.out.trans (HB2.out.mono HB1.out.size)).trans (hb3.mono (aC HB1.out.size HB2.out.size)));clear hb3;generalize hO:((iY (oh f r ⟨#[]⟩)):Option ah)=O at*;clear hO;unfold mD
    cases O with
    |none=>
     have HN:=aV (HRR.out);simp only[jG,iU]
     go_wp2_with fail
     go_ret2;exact⟨by rw[HN.out];rfl,HB3.out⟩
    |some out=>
     simp only[dm,gu]
     by_cases hov:out.size<=4000
     ·have HN:=aV (HRR.out.trans (BJ hov))
      have abw:¬(4000:Int)<(out.size:Int):=aJ
      go_wp2_with fail
      go_ret2;exact⟨by rw[HN.out];rfl,HB3.out⟩
     have HN:=aV (HRR.out.trans (BI hov))
     have abw:(4000:Int)<(out.size:Int):=aJ
     go_wp2_with fail
     go_ret2;exact⟨by rw[HN.out];rfl,HB3.out⟩
  ·have HRR:Hid (iY (qc f (nT s))=iY (Av f r)):=by
    show _=_;rw[HWE.out,hrr]
   have HD:=aV hd;clear hd hrr
   go_wp2_with fail
   go_region_with (go_at_call 221;refine(Cq _).mono ?_;rintro e w2 ⟨mb,rfl,hm,hb2⟩;have c2:w2.cell? ⟨A,0,none⟩=some (.string x):=(hb2.cell (p:=⟨A,0,none⟩) (aG c0)).trans c0;have k0:=hm.look_ok Tryz.underlying346 Tryz.zeroValue344 x HXZ.out;rw[HD.out] at k0;simp only[dm,gu] at k0)
   all_goals
    have HB2:Hid (Below w1.heap.size w1 w2):=(ay _ _).drew.trans hb2;have HR2:=aV (H.out.iy (HB1.out.trans (HB2.out.mono HB1.out.size)))
    have HT2:Hid (bL w2 (.slice (some ⟨A,o2,none⟩) L L) r):=⟨_,_,by rw[HL.out],dG HL.out.symm,aP ⟨A,o2,rfl,fun k s hk=>by
     have e:=HC.out (k+1) s (by simpa using hk);rw[show k+1=o2+k by have:=ho2 k (by rw[HL.out];exact(aN.1 hk).1);omega] at e
     exact(HB2.out.cell (p:=⟨A,o2+k,none⟩) (aG e)).trans e⟩⟩
    have HL2:Hid (r.length<=1048577):=by have:=HL.out;show _<=_;omega
    have HS2:Hid (∀d∈r,d.size<=1048576):=fun d hd=>Px.out d (by simp[hd])
    have HO2:Hid (jC w2):=HR.out.later (fun k hk=>((HB1.out.trans (HB2.out.mono HB1.out.size)).block k hk));clear hb2 hm k0;unfold SN
    go_wp2_with fail
    refine(abl f r _ _ _ HR2.out HT2.out HL2.out HS2.out HO2.out).mono ?_;rintro e w3 ⟨rfl,hb3⟩;have HB3:=aV ((HB1.out.trans (HB2.out.mono HB1.out.size)).trans (hb3.mono (aC HB1.out.size HB2.out.size)));clear hb3;generalize hO:((Av f r):Option ah)=O at*;clear hO;unfold mD
    cases O with
    |none=>
     have HN:=aV (HRR.out);simp only[jG,iU]
     go_wp2_with fail
     go_ret2;exact⟨by rw[HN.out];rfl,HB3.out⟩
    |some out=>
     simp only[dm,gu]
     by_cases hov:out.size<=4000
     ·have HN:=aV (HRR.out.trans (BJ hov))
      have abw:¬(4000:Int)<(out.size:Int):=aJ
      go_wp2_with fail
      go_ret2;exact⟨by rw[HN.out];rfl,HB3.out⟩
     have HN:=aV (HRR.out.trans (BI hov))
     have abw:(4000:Int)<(out.size:Int):=aJ
     go_wp2_with fail
     go_ret2;exact⟨by rw[HN.out];rfl,HB3.out⟩
  have HRR:Hid (iY (qc f (nT s))=iY (some (Gj r))):=by
   show _=_;rw[HWE.out,hrr]
  have HD:=aV hd;clear hd hrr
  go_wp2_with fail
  go_region_with (go_at_call 221;refine(Cq _).mono ?_;rintro e w2 ⟨mb,rfl,hm,hb2⟩;have c2:w2.cell? ⟨A,0,none⟩=some (.string x):=(hb2.cell (p:=⟨A,0,none⟩) (aG c0)).trans c0;have k0:=hm.look_ok Tryz.underlying346 Tryz.zeroValue344 x HXZ.out;rw[HD.out] at k0;simp only[dm,gu] at k0)
  all_goals
   have HB2:Hid (Below w1.heap.size w1 w2):=(ay _ _).drew.trans hb2;have HR2:=aV (H.out.iy (HB1.out.trans (HB2.out.mono HB1.out.size)))
   have HT2:Hid (bL w2 (.slice (some ⟨A,o2,none⟩) L L) r):=⟨_,_,by rw[HL.out],dG HL.out.symm,aP ⟨A,o2,rfl,fun k s hk=>by
    have e:=HC.out (k+1) s (by simpa using hk);rw[show k+1=o2+k by have:=ho2 k (by rw[HL.out];exact(aN.1 hk).1);omega] at e
    exact(HB2.out.cell (p:=⟨A,o2+k,none⟩) (aG e)).trans e⟩⟩
   have HL2:Hid (r.length<=1048577):=by have:=HL.out;show _<=_;omega
   have HS2:Hid (∀d∈r,d.size<=1048576):=fun d hd=>Px.out d (by simp[hd])
   have HO2:Hid (jC w2):=HR.out.later (fun k hk=>((HB1.out.trans (HB2.out.mono HB1.out.size)).block k hk));clear hb2 hm k0;unfold Sm
   go_wp2_with fail
   refine(abe r _ _ _ HT2.out HL2.out HS2.out).mono ?_;rintro e w3 ⟨rfl,hb3⟩;have HB3:=aV ((HB1.out.trans (HB2.out.mono HB1.out.size)).trans (hb3.mono (aC HB1.out.size HB2.out.size)));clear hb3;generalize hO:((some (Gj r)):Option ah)=O at*;clear hO;unfold mD
   cases O with
   |none=>
    have HN:=aV (HRR.out);simp only[jG,iU]
    go_wp2_with fail
    go_ret2;exact⟨by rw[HN.out];rfl,HB3.out⟩
   |some out=>
    simp only[dm,gu]
    by_cases hov:out.size<=4000
    ·have HN:=aV (HRR.out.trans (BJ hov))
     have abw:¬(4000:Int)<(out.size:Int):=aJ
     go_wp2_with fail
     go_ret2;exact⟨by rw[HN.out];rfl,HB3.out⟩
    have HN:=aV (HRR.out.trans (BI hov))
    have abw:(4000:Int)<(out.size:Int):=aJ
    go_wp2_with fail
    go_ret2;exact⟨by rw[HN.out];rfl,HB3.out⟩
end
section
open Go.RowKit Go.Maps
def oZ(d:ah):List Value:=.string d::Lib.strCells (gW d)
theorem Kv(d:ah):(oZ d).length=33:=by
 show(Lib.strCells (gW d)).length+1=33;rw[Lib.strCells_length,kS]
theorem Hy(d:ah):∀u∈oZ d,u.oneCell'=true:=by
 intro u hu
 rcases bg.1 hu with rfl|hu
 ·rfl
 obtain⟨y,_,rfl⟩:=fP.1 hu;rfl
def lm:Array Value:=#[.string ⟨#[]⟩,.int .u8 0,.int .u8 0,.int .u8 0,.int .u8 0,.int .u8 0,.int .u8 0,.int .u8 0,.int .u8 0,.int .u8 0,.int .u8 0,.int .u8 0,.int .u8 0,.int .u8 0,.int .u8 0,.int .u8 0,.int .u8 0,.int .u8 0,.int .u8 0,.int .u8 0,.int .u8 0,.int .u8 0,.int .u8 0,.int .u8 0,.int .u8 0,.int .u8 0,.int .u8 0,.int .u8 0,.int .u8 0,.int .u8 0,.int .u8 0,.int .u8 0,.int .u8 0]
def wP(f:ah->Option ah)(x:ah):Option Value:=(f x).map fun d=>.agg (oZ d).toArray
def MI(w:ak)(b n:Nat)(f:ah->Option ah):Prop:=eu GJ (.agg lm) w b n (wP f)
theorem Er(w:ak):(zeroValue 265).run Tryz.prog w=.ok (.agg lm) w:=dD
theorem Xf(d:ah):∃e p,GJ.R (.agg (oZ d).toArray)=some (e,p):=by
 obtain⟨l,hl⟩:=BK (oZ d) (fun v hv=>by
  rcases bg.1 hv with rfl|hv
  ·exact⟨_,rfl⟩
  obtain⟨y,_,rfl⟩:=fP.1 hv;exact⟨_,rfl⟩)
 refine⟨.agg l,[],?_⟩
 have h2:GJ.R (.agg (oZ d).toArray)=(xV (oZ d)).map fun l=>(DataW.agg l,[]):=rfl
 rw[h2,hl];rfl
theorem Un:∃d p,GJ.R (.agg lm)=some (d,p):=by
 have h:(GJ.R (.agg lm)).isSome=true:=dD
 obtain⟨⟨d,p⟩,h⟩:=fQ.1 h;exact⟨d,p,h⟩
theorem EY(f:ah->Option ah)(x:ah):∃Y:List Value,(wP f x).getD (.agg lm)=.agg (Value.string ((f x).getD ⟨#[]⟩)::Y).toArray/\Y.length=32/\(∀u∈Y,u.oneCell'=true)/\∀d,f x=some d->Y=Lib.strCells (gW d):=by
 unfold wP
 cases h:f x with
 |none=>
  have e:lm=(Value.string ⟨#[]⟩::lm.toList.tail).toArray:=dD
  refine⟨lm.toList.tail,ig Value.agg e,dD,?_,fun d hd=>absurd hd.symm (RN _)⟩
  have h2:lm.toList.tail.all (·.oneCell')=true:=dD
  exact fun u hu=>vQ.1 h2 u hu
 |some d=>
  exact⟨Lib.strCells (gW d),rfl,by rw[Lib.strCells_length,kS],fun u hu=>Hy d u (aZ _ hu),fun d' e=>by rw[ax e]⟩
def YG(ib:Nat):Value:=.func (.func 168) #[] #[.pointer (some ⟨ib,0,none⟩)]
theorem VP(w:ak)(args:Array Value):(callFunc 168 args).run Tryz.prog w=.ok (.enter 168 args) w:=dD
variable {w:ak}{ib mb n:Nat}{f:ah->Option ah}
theorem YH(x:ah)(hc:w.cell? ⟨ib,0,none⟩=some (.map (some mb)))(hm:MI w mb n f)(hx:x.size<=1048576):
  Calls Tryz.prog 168 #[.string x,.pointer (some ⟨ib,0,none⟩)] w fun e w'=>e=.returned (mD (f x))/\Below w.heap.size w w':=by
 have aix:=eu.look_ok hm (t:=258) Tryz.underlying258 Er x (by unfold maxLen;omega);obtain⟨Y,hY,hYl,hYo,_⟩:=EY f x
 have hs:(wP f x).isSome=(f x).isSome:=by unfold wP;rw[YA]
 rw[hY,hs] at aix
 have HI:Hid ((Tryz.prog.info? 265).map (·.size)=some 33):=by unfold Hid;kernel_rfl
 have HZ:Hid (lm.size=33):=by unfold Hid;kernel_rfl
 have HY:Hid ((Value.string ((f x).getD ⟨#[]⟩)::Y).toArray.size=33/\(Value.string ((f x).getD ⟨#[]⟩)::Y).toArray.all (·.oneCell')=true):=⟨by rw[bZ,aY,hYl],eH (fun u hu=>by
  rcases bg.1 hu with rfl|hu
  ·rfl
  exact hYo u hu)⟩
 have HP:Hid (mD (f x)=.tuple #[.string ((f x).getD ⟨#[]⟩),.bool (f x).isSome]):=rfl;clear hm hY hYl hYo hs;generalize (f x).isSome=q at*;generalize (f x).getD ⟨#[]⟩=D at*;have HT:Hid ((Value.string D::Y).toArray.toList=Value.string D::Y):=rfl;generalize (Value.string D::Y).toArray=C at*
 go_enter Tryz.func168,Tryz.ntmps168
 go_wp2_with (first
  | (refine cK (w:=w.alloc (.cells lm 265)) rfl 265 (.tmp 5) (.tmp 11) rfl w.heap.size 0 C rfl rfl (bR (bq _ _ _ rfl) 0 _ (by rw[HY.out.1,HZ.out];decide)) (by rw[HY.out.1];exact HI.out) HY.out.2 ?_;refine dO ?_)
  |fail)
 have HW2:Hid (Below w.heap.size w ((w.alloc (.cells lm 265)).setCells w.heap.size 0 C.toList)):=jo _ _ ((ay _ _).alloc (ai _) _) (ai _)
 have c2:((w.alloc (.cells lm 265)).setCells w.heap.size 0 C.toList).cell? ⟨w.heap.size,0,none⟩=some (.string D):=by
  refine eF _ _ _ _ (bR (bq _ _ _ rfl) 0 _ (by rw[aX,HY.out.1,HZ.out];decide)) 0 _ ?_;rw[HT.out];rfl
 generalize (w.alloc (.cells lm 265)).setCells w.heap.size 0 C.toList=w2 at*;unfold Hid
 go_wp2_with fail
 go_ret2;exact⟨by rw[HP.out];rfl,HW2.out⟩
theorem aa5(hc:w.cell? ⟨ib,0,none⟩=some (.map (some mb)))(hm:MI w mb n f)(hs:∀x d,f x=some d->d.size<=1048576):Jt w (YG ib) f:=by
 refine⟨⟨_,_,rfl⟩,fun w' hb vw x hx=>?_,hs⟩;have HC:Hid (w'.cell? ⟨ib,0,none⟩=some (.map (some mb))/\MI w' mb n f):=⟨(hb.cell (p:=⟨ib,0,none⟩) (aG hc)).trans hc,eu.keep hm (hb.block mb (eu.lt hm))⟩;clear hc hm hb hs
 have hnil:∀wx,(binOp .eql 238 (YG ib) .nilFunc).run Tryz.prog wx=.ok (.bool false) wx:=fun wx=>dD
 have HB:Hid (Below w'.heap.size w' (w'.alloc (.cells #[vw,YG ib] 349))):=(ay _ _).alloc (ai _) _;unfold YG at hnil HB⊢;have hen:=VP
 go_enter Tryz.func327,Tryz.ntmps327
 go_wp2_with fail
 refine(YH (n:=n) x ((HB.out.cell (p:=⟨ib,0,none⟩) (aG HC.out.1)).trans HC.out.1) (eu.keep HC.out.2 (HB.out.block mb (eu.lt HC.out.2))) hx).mono ?_;rintro e w2 ⟨rfl,hb2⟩;have HB2:=aV (HB.out.trans (hb2.mono HB.out.size));clear hb2 hnil hen HB HC;unfold mD;have HP:Hid (mD (f x)=.tuple #[.string ((f x).getD ⟨#[]⟩),.bool (f x).isSome]):=rfl;generalize (f x).getD ⟨#[]⟩=A1 at*;generalize (f x).isSome=q at*
 go_wp2
 go_ret2;exact⟨by rw[HP.out];rfl,HB2.out⟩
end
end Go.Proofs.YthhbpebihgjpjaaGreatDoor
