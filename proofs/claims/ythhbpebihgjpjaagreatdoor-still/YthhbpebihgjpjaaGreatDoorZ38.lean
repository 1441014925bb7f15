import Derived.Test.YthhbpebihgjpjaaGreatDoorZ36
import Derived.Test.YthhbpebihgjpjaaGreatDoorZ37
import Derived.Test.YthhbpebihgjpjaaGreatDoorZ31
import Derived.Test.YthhbpebihgjpjaaGreatDoorZ11
namespace Go.Proofs.YthhbpebihgjpjaaGreatDoor
set_option maxRecDepth 1000000
set_option maxHeartbeats 20000000
set_option linter.all false
section
open Go.RowKit
theorem za(s:ah):∀g i fr acc,(kJ s g i fr acc).length<=acc.length+g
 |0,_,_,_=>ai _
 |g+1,i,fr,acc=>by
  rw[kJ]
  split
  ·have:=za s g (i+1) fr acc;omega
  have:=za s g (i+1) (i+1) (if fr<i then acc++[(fr,i)] else acc)
  have h2:(if fr<i then acc++[(fr,i)] else acc).length<=acc.length+1:=by
   split
   ·simp
   omega
  omega
theorem PY(o:Option ah):iU (iU o)=iU o:=by
 cases o with
 |none=>rfl
 |some x=>
  unfold iU;simp only[aaW]
  split
  ·rename_i h
   simp[h]
  rfl
variable {x:ah}
theorem BH(h:x.size<=4000):iU (some x)=some x:=by simp[iU,h]
theorem BG(h:¬x.size<=4000):iU (some x)=none:=by simp[iU,h]
theorem toList_eq{l:List UInt8}(h:(x.toList==l)=true):x=⟨l.toArray⟩:=by
 have h1:x.toList=l:=by simpa using h
 have h2:(ByteArray.mk l.toArray).toList=l:=by rw[dX]
 exact xH (a:=x) (b:=⟨l.toArray⟩) (by rw[h1,h2];simp)
theorem VK(f:ah->Option ah)(x:ah)(r:List ah):
  (Gh x=none/\pX f (x::r)=none)\/(Gh x=some aa7/\pX f (x::r)=og f r ⟨#[]⟩)\/(Gh x=some SH/\pX f (x::r)=Ar f r)\/(Gh x=some Sj/\pX f (x::r)=some (Gi r)):=by
 have tl:∀l:List UInt8,(ByteArray.mk l.toArray).toList=l:=fun l=>by rw[dX]
 by_cases q1:(x.toList==[99,97,116])=true
 ·refine aL (aG ⟨?_,by rw[pX,aD q1]⟩);obtain rfl:=toList_eq q1;rfl
 by_cases q2:(x.toList==[104,97,115,104])=true
 ·refine aL (aL (aG ⟨?_,by rw[pX,ax q1,aD q2]⟩));obtain rfl:=toList_eq q2;rfl
 by_cases q3:(x.toList==[101,99,104,111])=true
 ·refine aL (aL (aL ⟨?_,by rw[pX,ax q1,ax q2,aD q3]⟩));obtain rfl:=toList_eq q3;rfl
 refine aG ⟨?_,by rw[pX,ax q1,ax q2,ax q3]⟩;unfold Gh;rw[ax,ax,ax]
 ·rintro rfl;exact q1 (by rw[show(ByteArray.mk #[99,97,116])=⟨[99,97,116].toArray⟩ from rfl,tl];rfl)
 ·rintro rfl;exact q2 (by rw[show(ByteArray.mk #[104,97,115,104])=⟨[104,97,115,104].toArray⟩ from rfl,tl];rfl)
 rintro rfl;exact q3 (by rw[show(ByteArray.mk #[101,99,104,111])=⟨[101,99,104,111].toArray⟩ from rfl,tl];rfl)
theorem aea(s:ah)(hs:s.size<=1048576)(f:ah->Option ah)(rv:Value)(w:aj)(h:Jr w rv f)(hR:jw w):
  Calls Tryz.prog 136 #[.string s,rv] w fun e w'=>e=.returned (mh (iU (pX f (nP s))))/\Below w.heap.size w w':=by
 obtain⟨kf,cf,rfl⟩:=h.form;have H:=aP h;have HR:=aP hR;have HS:=aP hs;clear h hR
 have HWL:Hid ((nP s).length<=1048577):=by
  show _<=_;unfold nP zX;rw[jR];have:=za s (s.size+1) 0 0 []
  simp at this
  omega
 have Pv:Hid (∀y∈nP s,y.size<=1048576):=fun y hy=>by
  obtain⟨p,_,rfl⟩:=fH.1 hy;rw[aI];omega
 clear hs
 go_enter Tryz.func136,Tryz.ntmps136
 go_wp2_with fail
 refine(UX s HS.out _).mono ?_;rintro e w1 ⟨A,rfl,hA,hown,hb1⟩;have HTW:=aP (mV hown);have HB1:=aP hb1;obtain⟨W,hWE⟩:∃W,nP s=W:=⟨_,rfl⟩;have HWE:=aP hWE;rw[hWE] at HTW HWL Pv⊢;clear hWE hown hb1 hA
 cases W with
 |nil=>
  go_wp2_with fail
  go_ret2;exact⟨by rw[HWE.out];rfl,HB1.out⟩
 |cons x r=>
  obtain⟨L,hL⟩:∃L,L=r.length:=⟨_,rfl⟩;have HL:=aP hL
  have HC:Hid (∀k s,(x::r)[k]?=some s->w1.cell? ⟨A,k,none⟩=some (.string s)):=by
   obtain⟨Bl,cap',e1,_,e|⟨b,o,e2,e3⟩⟩:=HTW.out
   ·cases e.2.1
   intro k s hk;injection e1 with e1;rw[e2] at e1;injection e1 with e1;injection e1 with e1 e4;subst e1 e4
   simpa using e3 k s hk
  simp only[aS];rw[<-hL];clear hL
  have l0:¬((L:Int)+1=0):=by omega
  have l1:(0:Int)<(L:Int)+1:=by omega
  have hl:L<=1048576:=by have:=HWL.out;have:=HL.out;simp at*;omega
  have c0:w1.cell? ⟨A,0,none⟩=some (.string x):=HC.out 0 x rfl;obtain⟨o2,ho2,hsl⟩:=LM A 0 L (L+1) (ai _)
  have hxz:x.size<=maxLen:=by have:=Pv.out x (by simp);unfold maxLen;omega
  have HXZ:=aP hxz;clear hxz
  rcases VK f x r with ⟨hd,hrr⟩|⟨hd,hrr⟩|⟨hd,hrr⟩|⟨hd,hrr⟩
  ·have HRR:Hid (iU (pX f (nP s))=none):=by
    show _=_;rw[HWE.out,hrr];rfl
   have HD:=aP hd;clear hd hrr
   go_wp2_with fail
   go_region_with (go_at_call 221;refine(Cn _).mono ?_;rintro e w2 ⟨mb,rfl,hm,hb2⟩;have c2:w2.cell? ⟨A,0,none⟩=some (.string x):=(hb2.cell (p:=⟨A,0,none⟩) (aC c0)).trans c0;have k0:=hm.look_ok Tryz.underlying346 Tryz.zeroValue344 x HXZ.out;rw[HD.out] at k0;simp only[jC,iN] at k0)
   all_goals
    have HB2:Hid (Below w1.heap.size w1 w2):=(au _ _).drew.trans hb2;clear hb2 hm k0
    go_wp2_with fail
    go_ret2;exact⟨by rw[HRR.out];rfl,HB1.out.trans (HB2.out.mono HB1.out.size)⟩
  ·have HRR:Hid (iU (pX f (nP s))=iU (iU (og f r ⟨#[]⟩))):=by
    show _=_;rw[HWE.out,hrr,PY]
   have HD:=aP hd;clear hd hrr
   go_wp2_with fail
   go_region_with (go_at_call 221;refine(Cn _).mono ?_;rintro e w2 ⟨mb,rfl,hm,hb2⟩;have c2:w2.cell? ⟨A,0,none⟩=some (.string x):=(hb2.cell (p:=⟨A,0,none⟩) (aC c0)).trans c0;have k0:=hm.look_ok Tryz.underlying346 Tryz.zeroValue344 x HXZ.out;rw[HD.out] at k0;simp only[bY,fT] at k0)
   all_goals
    have HB2:Hid (Below w1.heap.size w1 w2):=(au _ _).drew.trans hb2;have HR2:=aP (H.out.gY (HB1.out.trans (HB2.out.mono HB1.out.size)))
    have HT2:Hid (bG w2 (.slice (some ⟨A,o2,none⟩) L L) r):=⟨_,_,by rw[HL.out],dx HL.out.symm,aL ⟨A,o2,rfl,fun k s hk=>by
     have e:=HC.out (k+1) s (by simpa using hk);rw[show k+1=o2+k by have:=ho2 k (by rw[HL.out];exact(aJ.1 hk).1);omega] at e
     exact(HB2.out.cell (p:=⟨A,o2+k,none⟩) (aC e)).trans e⟩⟩
    have HL2:Hid (r.length<=1048577):=by have:=HL.out;show _<=_;omega
    have HS2:Hid (∀d∈r,d.size<=1048576):=fun d hd=>Pv.out d (by simp[hd])
    have HO2:Hid (jw w2):=HR.out.later (fun k hk=>((HB1.out.trans (HB2.out.mono HB1.out.size)).block k hk));clear hb2 hm k0;unfold aa7
    go_wp2_with fail
    refine(adr f r _ _ _ HR2.out HT2.out HL2.out HS2.out).mono ?_;rintro e w3 ⟨rfl,hb3⟩;have HB3:=aP ((HB1.out.trans (HB2.out.mono HB1.out.size)).trans (hb3.mono (aA HB1.out.size HB2.out.size)));clear hb3;generalize hO:((iU (og f r ⟨#[]⟩)):Option ah)=O at*;clear hO;unfold mh
    cases O with
    |none=>
     have HN:=aP (HRR.out);simp only[jC,iN]
     go_wp2_with fail
     go_ret2;exact⟨by rw[HN.out];rfl,HB3.out⟩
    |some out=>
     simp only[bY,fT]
     by_cases hov:out.size<=4000
     ·have HN:=aP (HRR.out.trans (BH hov))
      have abu:¬(4000:Int)<(out.size:Int):=by omega
      go_wp2_with fail
      go_ret2;exact⟨by rw[HN.out];rfl,HB3.out⟩
     have HN:=aP (HRR.out.trans (BG hov))
     have abu:(4000:Int)<(out.size:Int):=by omega
     go_wp2_with fail
     go_ret2;exact⟨by rw[HN.out];rfl,HB3.out⟩
  ·have HRR:Hid (iU (pX f (nP s))=iU (Ar f r)):=by
    show _=_;rw[HWE.out,hrr]
   have HD:=aP hd;clear hd hrr
   go_wp2_with fail
   go_region_with (go_at_call 221;refine(Cn _).mono ?_;rintro e w2 ⟨mb,rfl,hm,hb2⟩;have c2:w2.cell? ⟨A,0,none⟩=some (.string x):=(hb2.cell (p:=⟨A,0,none⟩) (aC c0)).trans c0;have k0:=hm.look_ok Tryz.underlying346 Tryz.zeroValue344 x HXZ.out;rw[HD.out] at k0;simp only[bY,fT] at k0)
   all_goals
    have HB2:Hid (Below w1.heap.size w1 w2):=(au _ _).drew.trans hb2;have HR2:=aP (H.out.gY (HB1.out.trans (HB2.out.mono HB1.out.size)))
    have HT2:Hid (bG w2 (.slice (some ⟨A,o2,none⟩) L L) r):=⟨_,_,by rw[HL.out],dx HL.out.symm,aL ⟨A,o2,rfl,fun k s hk=>by
     have e:=HC.out (k+1) s (by simpa using hk);rw[show k+1=o2+k by have:=ho2 k (by rw[HL.out];exact(aJ.1 hk).1);omega] at e
     exact(HB2.out.cell (p:=⟨A,o2+k,none⟩) (aC e)).trans e⟩⟩
    have HL2:Hid (r.length<=1048577):=by have:=HL.out;show _<=_;omega
    have HS2:Hid (∀d∈r,d.size<=1048576):=fun d hd=>Pv.out d (by simp[hd])
    have HO2:Hid (jw w2):=HR.out.later (fun k hk=>((HB1.out.trans (HB2.out.mono HB1.out.size)).block k hk));clear hb2 hm k0;unfold SH
    go_wp2_with fail
    refine(abj f r _ _ _ HR2.out HT2.out HL2.out HS2.out HO2.out).mono ?_;rintro e w3 ⟨rfl,hb3⟩;have HB3:=aP ((HB1.out.trans (HB2.out.mono HB1.out.size)).trans (hb3.mono (aA HB1.out.size HB2.out.size)));clear hb3;generalize hO:((Ar f r):Option ah)=O at*;clear hO;unfold mh
    cases O with
    |none=>
     have HN:=aP (HRR.out);simp only[jC,iN]
     go_wp2_with fail
     go_ret2;exact⟨by rw[HN.out];rfl,HB3.out⟩
    |some out=>
     simp only[bY,fT]
     by_cases hov:out.size<=4000
     ·have HN:=aP (HRR.out.trans (BH hov))
      have abu:¬(4000:Int)<(out.size:Int):=by omega
      go_wp2_with fail
      go_ret2;exact⟨by rw[HN.out];rfl,HB3.out⟩
     have HN:=aP (HRR.out.trans (BG hov))
     have abu:(4000:Int)<(out.size:Int):=by omega
     go_wp2_with fail
     go_ret2;exact⟨by rw[HN.out];rfl,HB3.out⟩
  have HRR:Hid (iU (pX f (nP s))=iU (some (Gi r))):=by
   show _=_;rw[HWE.out,hrr]
  have HD:=aP hd;clear hd hrr
  go_wp2_with fail
  go_region_with (go_at_call 221;refine(Cn _).mono ?_;rintro e w2 ⟨mb,rfl,hm,hb2⟩;have c2:w2.cell? ⟨A,0,none⟩=some (.string x):=(hb2.cell (p:=⟨A,0,none⟩) (aC c0)).trans c0;have k0:=hm.look_ok Tryz.underlying346 Tryz.zeroValue344 x HXZ.out;rw[HD.out] at k0;simp only[bY,fT] at k0)
  all_goals
   have HB2:Hid (Below w1.heap.size w1 w2):=(au _ _).drew.trans hb2;have HR2:=aP (H.out.gY (HB1.out.trans (HB2.out.mono HB1.out.size)))
   have HT2:Hid (bG w2 (.slice (some ⟨A,o2,none⟩) L L) r):=⟨_,_,by rw[HL.out],dx HL.out.symm,aL ⟨A,o2,rfl,fun k s hk=>by
    have e:=HC.out (k+1) s (by simpa using hk);rw[show k+1=o2+k by have:=ho2 k (by rw[HL.out];exact(aJ.1 hk).1);omega] at e
    exact(HB2.out.cell (p:=⟨A,o2+k,none⟩) (aC e)).trans e⟩⟩
   have HL2:Hid (r.length<=1048577):=by have:=HL.out;show _<=_;omega
   have HS2:Hid (∀d∈r,d.size<=1048576):=fun d hd=>Pv.out d (by simp[hd])
   have HO2:Hid (jw w2):=HR.out.later (fun k hk=>((HB1.out.trans (HB2.out.mono HB1.out.size)).block k hk));clear hb2 hm k0;unfold Sj
   go_wp2_with fail
   refine(abb r _ _ _ HT2.out HL2.out HS2.out).mono ?_;rintro e w3 ⟨rfl,hb3⟩;have HB3:=aP ((HB1.out.trans (HB2.out.mono HB1.out.size)).trans (hb3.mono (aA HB1.out.size HB2.out.size)));clear hb3;generalize hO:((some (Gi r)):Option ah)=O at*;clear hO;unfold mh
   cases O with
   |none=>
    have HN:=aP (HRR.out);simp only[jC,iN]
    go_wp2_with fail
    go_ret2;exact⟨by rw[HN.out];rfl,HB3.out⟩
   |some out=>
    simp only[bY,fT]
    by_cases hov:out.size<=4000
    ·have HN:=aP (HRR.out.trans (BH hov))
     have abu:¬(4000:Int)<(out.size:Int):=by omega
     go_wp2_with fail
     go_ret2;exact⟨by rw[HN.out];rfl,HB3.out⟩
    have HN:=aP (HRR.out.trans (BG hov))
    have abu:(4000:Int)<(out.size:Int):=by omega
    go_wp2_with fail
    go_ret2;exact⟨by rw[HN.out];rfl,HB3.out⟩
end
section
open Go.RowKit Go.Maps
def oV(d:ah):List Value:=.string d::Lib.strCells (gM d)
theorem Kv(d:ah):(oV d).length=33:=by
 show(Lib.strCells (gM d)).length+1=33;rw[Lib.strCells_length,kN]
theorem Hw(d:ah):∀u∈oV d,u.oneCell'=true:=by
 intro u hu
 rcases aV.1 hu with rfl|hu
 ·rfl
 obtain⟨y,_,rfl⟩:=fH.1 hu;rfl
def kX:Array Value:=#[.string ⟨#[]⟩,.int .u8 0,.int .u8 0,.int .u8 0,.int .u8 0,.int .u8 0,.int .u8 0,.int .u8 0,.int .u8 0,.int .u8 0,.int .u8 0,.int .u8 0,.int .u8 0,.int .u8 0,.int .u8 0,.int .u8 0,.int .u8 0,.int .u8 0,.int .u8 0,.int .u8 0,.int .u8 0,.int .u8 0,.int .u8 0,.int .u8 0,.int .u8 0,.int .u8 0,.int .u8 0,.int .u8 0,.int .u8 0,.int .u8 0,.int .u8 0,.int .u8 0,.int .u8 0]
def wM(f:ah->Option ah)(x:ah):Option Value:=(f x).map fun d=>.agg (oV d).toArray
def MJ(w:aj)(b n:Nat)(f:ah->Option ah):Prop:=dU GI (.agg kX) w b n (wM f)
theorem Eo(w:aj):(zeroValue 265).run Tryz.prog w=.ok (.agg kX) w:=by kernel_rfl
theorem Xe(d:ah):∃e p,GI.R (.agg (oV d).toArray)=some (e,p):=by
 obtain⟨l,hl⟩:=BI (oV d) (fun v hv=>by
  rcases aV.1 hv with rfl|hv
  ·exact⟨_,rfl⟩
  obtain⟨y,_,rfl⟩:=fH.1 hv;exact⟨_,rfl⟩)
 refine⟨.agg l,[],?_⟩
 have h2:GI.R (.agg (oV d).toArray)=(xQ (oV d)).map fun l=>(DataW.agg l,[]):=rfl
 rw[h2,hl];rfl
theorem Uk:∃d p,GI.R (.agg kX)=some (d,p):=by
 have h:(GI.R (.agg kX)).isSome=true:=by kernel_rfl
 obtain⟨⟨d,p⟩,h⟩:=fI.1 h;exact⟨d,p,h⟩
theorem EW(f:ah->Option ah)(x:ah):∃Y:List Value,(wM f x).getD (.agg kX)=.agg (Value.string ((f x).getD ⟨#[]⟩)::Y).toArray/\Y.length=32/\(∀u∈Y,u.oneCell'=true)/\∀d,f x=some d->Y=Lib.strCells (gM d):=by
 unfold wM
 cases h:f x with
 |none=>
  have e:kX=(Value.string ⟨#[]⟩::kX.toList.tail).toArray:=by kernel_rfl
  refine⟨kX.toList.tail,gW Value.agg e,by kernel_rfl,?_,fun d hd=>absurd hd.symm (RH _)⟩
  have h2:kX.toList.tail.all (·.oneCell')=true:=by kernel_rfl
  exact fun u hu=>qZ.1 h2 u hu
 |some d=>
  exact⟨Lib.strCells (gM d),rfl,by rw[Lib.strCells_length,kN],fun u hu=>Hw d u (aU _ hu),fun d' e=>by rw[ak e]⟩
def YF(ib:Nat):Value:=.func (.func 168) #[] #[.pointer (some ⟨ib,0,none⟩)]
theorem VO(w:aj)(args:Array Value):(callFunc 168 args).run Tryz.prog w=.ok (.enter 168 args) w:=by kernel_rfl
variable {w:aj}{ib mb n:Nat}{f:ah->Option ah}
theorem YG(x:ah)(hc:w.cell? ⟨ib,0,none⟩=some (.map (some mb)))(hm:MJ w mb n f)(hx:x.size<=1048576):
  Calls Tryz.prog 168 #[.string x,.pointer (some ⟨ib,0,none⟩)] w fun e w'=>e=.returned (mh (f x))/\Below w.heap.size w w':=by
 have aiu:=dU.look_ok hm (t:=258) Tryz.underlying258 Eo x (by unfold maxLen;omega);obtain⟨Y,hY,hYl,hYo,_⟩:=EW f x
 have hs:(wM f x).isSome=(f x).isSome:=by unfold wM;rw[Yz]
 rw[hY,hs] at aiu
 have HI:Hid ((Tryz.prog.info? 265).map (·.size)=some 33):=by unfold Hid;kernel_rfl
 have HZ:Hid (kX.size=33):=by unfold Hid;kernel_rfl
 have HY:Hid ((Value.string ((f x).getD ⟨#[]⟩)::Y).toArray.size=33/\(Value.string ((f x).getD ⟨#[]⟩)::Y).toArray.all (·.oneCell')=true):=⟨by rw[bT,aS,hYl],dY (fun u hu=>by
  rcases aV.1 hu with rfl|hu
  ·rfl
  exact hYo u hu)⟩
 have HP:Hid (mh (f x)=.tuple #[.string ((f x).getD ⟨#[]⟩),.bool (f x).isSome]):=rfl;clear hm hY hYl hYo hs;generalize (f x).isSome=q at*;generalize (f x).getD ⟨#[]⟩=D at*;have HT:Hid ((Value.string D::Y).toArray.toList=Value.string D::Y):=rfl;generalize (Value.string D::Y).toArray=C at*
 go_enter Tryz.func168,Tryz.ntmps168
 go_wp2_with (first
  | (refine bU (w:=w.alloc (.cells kX 265)) rfl 265 (.tmp 5) (.tmp 11) rfl w.heap.size 0 C rfl rfl (bM (aW _ _ _ rfl) 0 _ (by rw[HY.out.1,HZ.out];decide)) (by rw[HY.out.1];exact HI.out) HY.out.2 ?_;refine dI ?_)
  |fail)
 have HW2:Hid (Below w.heap.size w ((w.alloc (.cells kX 265)).setCells w.heap.size 0 C.toList)):=ji _ _ ((au _ _).alloc (ai _) _) (ai _)
 have c2:((w.alloc (.cells kX 265)).setCells w.heap.size 0 C.toList).cell? ⟨w.heap.size,0,none⟩=some (.string D):=by
  refine dW _ _ _ _ (bM (aW _ _ _ rfl) 0 _ (by rw[aR,HY.out.1,HZ.out];decide)) 0 _ ?_;rw[HT.out];rfl
 generalize (w.alloc (.cells kX 265)).setCells w.heap.size 0 C.toList=w2 at*;unfold Hid
 go_wp2_with fail
 go_ret2;exact⟨by rw[HP.out];rfl,HW2.out⟩
theorem aa3(hc:w.cell? ⟨ib,0,none⟩=some (.map (some mb)))(hm:MJ w mb n f)(hs:∀x d,f x=some d->d.size<=1048576):Jr w (YF ib) f:=by
 refine⟨⟨_,_,rfl⟩,fun w' hb vw x hx=>?_,hs⟩;have HC:Hid (w'.cell? ⟨ib,0,none⟩=some (.map (some mb))/\MJ w' mb n f):=⟨(hb.cell (p:=⟨ib,0,none⟩) (aC hc)).trans hc,dU.keep hm (hb.block mb (dU.lt hm))⟩;clear hc hm hb hs
 have hnil:∀wx,(binOp .eql 238 (YF ib) .nilFunc).run Tryz.prog wx=.ok (.bool false) wx:=fun wx=>by kernel_rfl
 have HB:Hid (Below w'.heap.size w' (w'.alloc (.cells #[vw,YF ib] 349))):=(au _ _).alloc (ai _) _;unfold YF at hnil HB⊢;have hen:=VO
 go_enter Tryz.func327,Tryz.ntmps327
 go_wp2_with fail
 refine(YG (n:=n) x ((HB.out.cell (p:=⟨ib,0,none⟩) (aC HC.out.1)).trans HC.out.1) (dU.keep HC.out.2 (HB.out.block mb (dU.lt HC.out.2))) hx).mono ?_;rintro e w2 ⟨rfl,hb2⟩;have HB2:=aP (HB.out.trans (hb2.mono HB.out.size));clear hb2 hnil hen HB HC;unfold mh;have HP:Hid (mh (f x)=.tuple #[.string ((f x).getD ⟨#[]⟩),.bool (f x).isSome]):=rfl;generalize (f x).getD ⟨#[]⟩=A1 at*;generalize (f x).isSome=q at*
 go_wp2
 go_ret2;exact⟨by rw[HP.out];rfl,HB2.out⟩
