import Derived.Test.YthhbpebihgjpjaaGreatDoorShelf
import Derived.Test.YthhbpebihgjpjaaGreatDoorZ04
namespace Go.Proofs.YthhbpebihgjpjaaGreatDoor
set_option maxRecDepth 1000000
set_option maxHeartbeats 20000000
set_option linter.all false
section
open Go.RowKit Go.Shelf
def Bj(p:Nat->Bool):List UInt8->Nat
 |[]=>0
 |c::r=>if p c.toNat then Bj p r+1 else 0
def FH(p:Nat->Bool)(t:ah):Nat:=Bj p t.data.toList
theorem LP(p:Nat->Bool):∀l,Bj p l<=l.length
 |[]=>ai _
 |c::r=>by
  rw[Bj]
  split
  ·have:=LP p r;simp;omega
  omega
theorem kg(p:Nat->Bool)(t:ah):FH p t<=t.size:=LP p t.data.toList
theorem Uy(p:Nat->Bool):∀(l:List UInt8) (n:Nat),n<=l.length->(∀i c,i<n->l[i]?=some c->p c.toNat=true)->(∀c,l[n]?=some c->p c.toNat=false)->Bj p l=n
 |[],n,h,_,_=>by
  obtain rfl:n=0:=by simpa using h
  rfl
 |c::r,0,_,_,h2=>by
  rw[Bj,h2 c rfl];rfl
 |c::r,n+1,h,h1,h2=>by
  rw[Bj,h1 0 c aJ rfl,aH rfl,Uy p r n (by simpa using h) (fun i d hi hd=>h1 (i+1) d aJ (by simpa using hd)) (fun d hd=>h2 d (by simpa using hd))]
variable {t:ah}
theorem uZ{i:Nat}{c:UInt8}(h:t.data.toList[i]?=some c):byteOf t i=c.toNat:=by
 unfold byteOf;rw[cZ] at h;rw[h];rfl
theorem LV(p:Nat->Bool)(t:ah)(n:Nat)(hn:n<=t.size)(h1:∀i,i<n->p (byteOf t i)=true)(h2:n<t.size->p (byteOf t n)=false):FH p t=n:=by
 refine Uy p _ n hn (fun i c hi hc=>?_) (fun c hc=>?_)
 ·rw[<-uZ hc];exact h1 i hi
 rw[<-uZ hc];refine h2 ?_;have:=(aN.1 hc).1
 simpa using this
theorem Em(p:Nat->Bool):∀l:List UInt8,l.drop (Bj p l)=l.dropWhile fun c=>p c.toNat
 |[]=>rfl
 |c::r=>by
  rw[Bj]
  by_cases h:p c.toNat=true
  ·rw[aH h,List.drop_succ_cons,Em p r,List.dropWhile_cons,aH h]
  rw[aA h,List.dropWhile_cons,aA h];rfl
theorem Qk(t:ah)(a:Nat):(t.extract a t.size).data.toList=t.data.toList.drop a:=by
 rw[gI,Pn];show(t.data.toList.drop a).take (t.data.size-a)=_;exact bK eB
def agm(c:Nat):Bool:=c==32
def BH(t:ah):Nat:=FH agm t
def bI(t:ah):ah:=t.extract (BH t) t.size
def dB(t:ah):Nat:=FH oF t
def fE(t:ah):ah:=t.extract 0 (dB t)
def gV(t:ah):ah:=t.extract (dB t) t.size
theorem KN(t:ah):(bI t).size=t.size-BH t:=by unfold bI;rw[aM];omega
theorem kG(t:ah):(bI t).size<=t.size:=by rw[KN];omega
theorem mh(t:ah):(fE t).size=dB t:=by
 unfold fE;rw[aM];have:=kg oF t;unfold dB;omega
theorem yj(t:ah):(gV t).size=t.size-dB t:=by unfold gV;rw[aM];omega
theorem Wz(t:ah):bI t=⟨(Lib.trimLeftB t.data.toList 32).toArray⟩:=by
 have h:(bI t).data.toList=Lib.trimLeftB t.data.toList 32:=by
  unfold bI BH FH;rw[Qk,Em];unfold Lib.trimLeftB
  congr 1
  funext c
  unfold agm;rw[tu];simp only[beq_iff_eq];exact⟨fun e=>qh.1 e,fun e=>by rw[e];rfl⟩
 apply ByteArray.ext;apply fJ.1;rw[h]
theorem qH(t:ah)(n:Nat)(h:n<=t.size)(wx:ak):(Instr.slice 9 (.string t) none (some (.int .i64 n)) none).run Tryz.prog wx=.ok (.string (t.extract 0 n)) wx:=by
 have h1:(n:Int)<=(t.size:Int):=aJ
 simp[Instr.slice,ny Tryz.underlying9,go_sem,h]
theorem nQ(t:ah)(n:Nat)(h:n<=t.size)(wx:ak):(Instr.slice 9 (.string t) (some (.int .i64 n)) none none).run Tryz.prog wx=.ok (.string (t.extract n t.size)) wx:=by
 have h1:(n:Int)<=(t.size:Int):=aJ
 simp[Instr.slice,ny Tryz.underlying9,go_sem,h]
theorem gM(t:ah)(w:ak):
  Calls Tryz.prog 191 #[.string t] w fun e w'=>e=.returned (.string (bI t))/\w'=w:=by
 have hC:=Any.strings_TrimLeft_one Tryz.lays161 t 32 bS w;rw[<-Wz] at hC;have HC:=aV hC;clear hC
 go_enter Tryz.func191,Tryz.ntmps191
 go_wp2_with fail
 refine HC.out.mono ?_;rintro e w' ⟨rfl,rfl⟩
 go_wp2
 go_ret;exact⟨rfl,rfl⟩
theorem qB(t:ah)(ht:t.size<=1099511627776)(w:ak):
  Calls Tryz.prog 194 #[.string t] w fun e w'=>e=.returned (.tuple #[.string (fE t),.string (gV t)])/\∃n,w'=w.drewN n:=by
 have t0:(t.size:Int)<=1099511627776:=aJ
 go_enter Tryz.func194,Tryz.ntmps194
 go_wp2_with fail
 go_loop [4] (fun i=>∃j:Nat,i=.int .i64 j/\j<=t.size/\(∀k,k<j->oF (byteOf t k)=true)) (fun i=>t.size-(intOf i).toNat)
 case atStart=>exact⟨0,rfl,aS _,fun k hk=>aJ⟩
 case round=>
  obtain⟨j,rfl,hle,hag⟩:=hrel;have Rl:=aV hag;clear hag
  have j0:(0:Int)<=(j:Int):=aJ
  by_cases hlt:j<t.size
  ·have j1:(j:Int)<(t.size:Int):=aJ
   have hidx:∀wx,(Instr.index 9 (.string t) (.int .i64 j)).run Tryz.prog wx=.ok (.int .u8 (byteOf t j)) wx:=fun wx=>kI t j hlt wx
   obtain⟨x,hx⟩:∃x,x=byteOf t j:=⟨_,rfl⟩;have HX:=aV hx
   have hb:x<256:=by rw[hx];exact xG t j
   rw[<-hx] at hidx;clear hx
   go_wp2_with fail
   refine(FJ x hb _).mono ?_;rintro e w' ⟨rfl,rfl⟩
   cases hw:oF x with
   |true=>
    have HR:Hid (∀k,k<j+1->oF (byteOf t k)=true):=fun k hk=>by
     rcases bX k j with c|c
     ·exact Rl.out k c
     obtain rfl:k=j:=aJ
     rw[<-HX.out];exact hw
    go_wp2_with fail
    exact⟨⟨j+1,oW,hlt,HR.out⟩,by simp[intOf];omega⟩
   |false=>
    have HW:Hid (dB t=j):=LV _ _ _ hle Rl.out (fun _=>by rw[<-HX.out];exact hw)
    have hs1:∀wx,(Instr.slice 9 (.string t) none (some (.int .i64 j)) none).run Tryz.prog wx=.ok (.string (fE t)) wx:=fun wx=>by rw[qH t j hle wx,fE,HW.out]
    have hs2:∀wx,(Instr.slice 9 (.string t) (some (.int .i64 j)) none none).run Tryz.prog wx=.ok (.string (gV t)) wx:=fun wx=>by rw[nQ t j hle wx,gV,HW.out]
    generalize hHd:fE t=hd at*;generalize hTl:gV t=tl at*;have HHd:=aV hHd;have HTl:=aV hTl;clear hHd hTl
    go_wp2_with fail
    go_region
    all_goals
     go_wp2
     go_ret2;exact⟨by rw[HHd.out,HTl.out];rfl,1,rfl⟩
  obtain rfl:j=t.size:=aJ
  have HW:Hid (dB t=t.size):=LV _ _ _ hle Rl.out (fun h=>absurd h (FW _))
  have hs1:∀wx,(Instr.slice 9 (.string t) none (some (.int .i64 t.size)) none).run Tryz.prog wx=.ok (.string (fE t)) wx:=fun wx=>by rw[qH t t.size (ai _) wx,fE,HW.out]
  have hs2:∀wx,(Instr.slice 9 (.string t) (some (.int .i64 t.size)) none none).run Tryz.prog wx=.ok (.string (gV t)) wx:=fun wx=>by rw[nQ t t.size (ai _) wx,gV,HW.out]
  generalize hHd:fE t=hd at*;generalize hTl:gV t=tl at*;have HHd:=aV hHd;have HTl:=aV hTl;clear hHd hTl
  go_wp2_with fail
  go_region
  all_goals
   go_wp2
   go_ret2;exact⟨by rw[HHd.out,HTl.out];rfl,1,rfl⟩
end
section
open Go.RowKit
def Aq(b:Nat)(d:Int)(k:Nat):Int:=if (bits .and .u32 (bits .xor .u32 d ((b:Int)/2 ^ k)) 1 !=0)=true then bits .xor .u32 (d/2) 3988292384 else d/2
def um(b:Nat)(d:Int):Nat->Int
 |0=>d
 |k+1=>Aq b (um b d k) k
def Di(t:ah):Nat->Int
 |0=>4294967295
 |j+1=>um (byteOf t j) (Di t j) 8
def BO(t:ah):Int:=bits .xor .u32 IntKind.u32.max (Di t t.size)
theorem Yh(a b:Int):0<=bits .xor .u32 a b/\bits .xor .u32 a b<=4294967295:=by
 have h:bits .xor .u32 a b=IntKind.u32.wrap ((BitVec.ofInt 32 a ^^^ BitVec.ofInt 32 b).toNat:Int):=rfl;rw[h,IntKind.wrap_u32];omega
variable {b:Nat}
theorem YR{d:Int}(h:0<=d/\d<=4294967295)(k:Nat):0<=Aq b d k/\Aq b d k<=4294967295:=by
 unfold Aq
 split
 ·exact Yh _ _
 omega
theorem XP(t:ah):0<=BO t/\BO t<=4294967295:=Yh _ _
theorem XQ(t:ah)(ht:t.size<=1099511627776)(w:ak):
  Calls Tryz.prog 251 #[.string t] w fun e w'=>e=.returned (.int .u32 (BO t))/\w'=w:=by
 have n0:(t.size:Int)<=1099511627776:=aJ
 go_enter Tryz.func251,Tryz.ntmps251
 go_wp2_with fail
 go_loop [3,9] (fun v i=>∃j:Nat,i=.int .i64 j/\v=.int .u32 (Di t j)/\(0<=Di t j/\Di t j<=4294967295)/\j<=t.size) (fun _ i=>t.size-(intOf i).toNat)
 case atStart=>exact⟨0,rfl,rfl,⟨show(0:Int)<=4294967295 by decide,show(4294967295:Int)<=4294967295 by decide⟩,aS _⟩
 case round=>
  obtain⟨j,rfl,rfl,hc,hj⟩:=hrel;have HN:Hid (Di t (j+1)=um (byteOf t j) (Di t j) 8):=rfl;have HE:Hid (BO t=bits .xor .u32 IntKind.u32.max (Di t t.size)):=rfl
  by_cases hlt:j<t.size
  ·have j0:(0:Int)<=(j:Int):=aJ
   have j1:(j:Int)<(t.size:Int):=aJ
   have hidx:∀wx,(Instr.index 9 (.string t) (.int .i64 j)).run Tryz.prog wx=.ok (.int .u8 (byteOf t j)) wx:=fun wx=>kI t j hlt wx
   have hb:=xG t j;generalize byteOf t j=b at*;generalize Di t j=c at*
   go_wp2_with fail
   go_loop [3,12] (fun v i=>∃k:Nat,i=.int .i64 k/\v=.int .u32 (um b c k)/\(0<=um b c k/\um b c k<=4294967295)/\k<=8) (fun _ i=>8-(intOf i).toNat)
   case atStart=>exact⟨0,rfl,rfl,hc,aS _⟩
   case round=>
    obtain⟨k,rfl,rfl,hd,hk⟩:=hrel;have d0:=hd.1;have d1:=hd.2;have HK:Hid (um b c (k+1)=Aq b (um b c k) k):=rfl;have HO:Hid (0<=Aq b (um b c k) k/\Aq b (um b c k) k<=4294967295):=YR hd k
    by_cases hkl:k<8
    ·have k1:(k:Int)<8:=aJ
     generalize hD:um b c k=d at*;clear hD
     cases hq:(bits .and .u32 (bits .xor .u32 d ((b:Int)/2 ^ k)) 1 !=0) with
     |true=>
      have HS:Hid (Aq b d k=bits .xor .u32 (d/2) 3988292384):=aH hq
      go_wp2
      exact⟨⟨k+1,oW,by rw[HK.out,HS.out],by rw[HK.out];exact HO.out,aJ⟩,by simp[intOf];omega⟩
     |false=>
      have HS:Hid (Aq b d k=d/2):=aA (by rw[hq];decide)
      go_wp2
      exact⟨⟨k+1,oW,by rw[HK.out,HS.out],by rw[HK.out];exact HO.out,aJ⟩,by simp[intOf];omega⟩
    obtain rfl:k=8:=aJ
    go_wp2
    exact⟨⟨j+1,oW,by rw[HN.out],by rw[HN.out];exact hd,aJ⟩,by simp[intOf];omega⟩
  obtain rfl:j=t.size:=aJ
  generalize Di t t.size=c at*;have c0:=hc.1;have c1:=hc.2
  go_wp2
  go_ret;exact⟨by rw[HE.out];rfl,rfl⟩
def wK(t:ah):Bool:=decide ((bI t).size=0\/byteOf (bI t) 0=35)
theorem qR(t:ah):t.toList.isEmpty=decide (t.size=0):=by
 rw[eG];show t.data.toList.isEmpty=decide (t.data.size=0);rw[<-aX]
 cases t.data.toList with
 |nil=>rfl
 |cons c r=>simp
def vX(t k:ah):Bool:=decide (fE t=k/\dB t<t.size/\byteOf t (dB t)=32)
end
section
open Go.RowKit Go.Shelf Go.Lib
def dW(w:ak)(b:Nat)(t:ah):Prop:=Lib.IsBuilderF 379 5 b b (Lib.strCells t) w
theorem uM(s t:ah):Lib.strCells (s++t)=Lib.strCells s++Lib.strCells t:=by
 unfold Lib.strCells;rw[Ab,Array.toList_append,iI]
variable {b:Nat}{w w':ak}
theorem BuilderAtF.keep{T e:TypeId}{B:Nat}{p:Value}{bs:List Value}(h:Lib.BuilderAtF T e B b p bs w)(hb:∀k,k<w.heap.size->w'.heap[k]?=w.heap[k]?):Lib.BuilderAtF T e B b p bs w':=by
 have hlt:=h.lt;obtain⟨hB,v,hbk,hown,hne⟩:=h;refine⟨hB,v,(hb b hlt).trans hbk,?_,hne⟩;obtain⟨hl,h|⟨g,cap,cur,fz,hv,hg0,hg,hr⟩⟩:=hown
 ·exact⟨hl,aK h⟩
 exact⟨hl,aP ⟨g,cap,cur,fz,hv,hg0,(hb g (gQ.1 hg).1).trans hg,hr⟩⟩
variable {t:ah}
theorem dW.keep(h:dW w b t)(hb:∀k,k<w.heap.size->w'.heap[k]?=w.heap[k]?):dW w' b t:=
 h.elim (fun x=>.inl (BuilderAtF.keep x hb)) (fun x=>.inr (BuilderAtF.keep x hb))
theorem dW.below(h:dW w b t)(hb:Below w.heap.size w w'):dW w' b t:=h.keep hb.block
theorem dW.lt(h:dW w b t):b<w.heap.size:=h.elim (fun x=>x.lt) (fun x=>x.lt)
theorem uY(w:ak):dW (w.alloc (.cells #[.pointer none,.slice none 0 0] 379)) w.heap.size ⟨#[]⟩:=IsBuilderF.of (Lib.fresh_isBuilder _ _ w)
theorem rO(b:Nat)(t s:ah)(w:ak)(h:dW w b t)(hs:t.size+s.size<=140737488355328):
  Calls Tryz.prog 245 #[.pointer (some ⟨b,0,none⟩),.string s] w fun e w'=>e=.returned (.tuple #[.int .i64 s.size,.nilIface])/\dW w' b (t++s)/\Below b w w':=by
 refine(Any.Builder_WriteString_k Tryz.lays166 Tryz.Builder_Extra_166 b b (Lib.strCells t) s w h (by rw[Lib.strCells_length];exact hs) (iR h.lt)).mono ?_;rintro e w' ⟨he,h1,h2,_⟩;refine⟨he,aP ?_,h2⟩;rw[uM];exact h1
theorem Gc(b:Nat)(t s:ah)(w:ak)(h:dW w b t)(hs:t.size+s.size<=140737488355328):
  Calls Tryz.prog 245 #[.pointer (some ⟨b,0,none⟩),.string s] w fun e w'=>e=.returned (.tuple #[.int .i64 s.size,.nilIface])/\dW w' b (t++s)/\Below b w w'/\Lib.OthersKept 5 (some b) w w':=by
 refine(Any.Builder_WriteString_k Tryz.lays166 Tryz.Builder_Extra_166 b b (Lib.strCells t) s w h (by rw[Lib.strCells_length];exact hs) (iR h.lt)).mono ?_;rintro e w' ⟨he,h1,h2,h3⟩;refine⟨he,aP ?_,h2,h3⟩;rw[uM];exact h1
theorem xE(b:Nat)(t:ah)(c:UInt8)(x:Int)(hx:x=(c.toNat:Int))(w:ak)(h:dW w b t)(hs:t.size+1<=140737488355328):
  Calls Tryz.prog 246 #[.pointer (some ⟨b,0,none⟩),.int .u8 x] w fun e w'=>e=.returned .nilIface/\dW w' b (t++⟨#[c]⟩)/\Below b w w':=by
 subst hx;refine(Any.Builder_WriteByte_k Tryz.lays167 Tryz.Builder_Extra_167 b b (Lib.strCells t) _ w h (by rw[Lib.strCells_length];exact hs) (iR h.lt)).mono ?_;rintro e w' ⟨he,h1,h2,_⟩;refine⟨he,aP ?_,h2⟩;rw[uM];exact h1
theorem uX(b:Nat)(t:ah)(w:ak)(h:dW w b t):
  Calls Tryz.prog 248 #[.pointer (some ⟨b,0,none⟩)] w fun e w'=>e=.returned (.string t)/\dW w' b t/\Below b w w':=by
 refine(Any.Builder_String_any_k Tryz.lays169 Tryz.Builder_Extra_169 b b t.data.toList w h (iR h.lt)).mono ?_;rintro e w' ⟨he,h1,h2,_⟩;exact⟨he,h1,h2⟩
theorem JQ(b:Nat)(t:ah)(w:ak)(h:dW w b t):
  Calls Tryz.prog 275 #[.pointer (some ⟨b,0,none⟩)] w fun e w'=>e=.returned (.int .i64 t.size)/\w'=w:=by
 refine(Any.Builder_Len_f Tryz.lays170 b b (Lib.strCells t) w h).mono ?_;rintro e w' ⟨he,h1⟩;exact⟨by rw[he,Lib.strCells_length],h1⟩
end
section
open Go.RowKit Go.Shelf
variable {w:ak}
theorem SQ{k:Nat}{o:Obj}(h:w.heap[k]?=some o):k<w.heap.size:=(gQ.1 h).1
theorem Hg(b:Nat)(t s:ah)(g o c:Nat)(w:ak)(h:dW w b t)(hg:∀w',Below b w w'->Lib.OthersKept 5 (some b) w w'->w'.heap[g]?=w.heap[g]?)(hs:t.size+s.size<=140737488355328)(hc:∀j u,(Lib.strCells s)[j]?=some u->w.cell? ⟨g,o+j,none⟩=some u):
  Calls Tryz.prog 247 #[.pointer (some ⟨b,0,none⟩),.slice (some ⟨g,o,none⟩) s.size c] w fun e w'=>e=.returned (.tuple #[.int .i64 s.size,.nilIface])/\dW w' b (t++s)/\Below b w w'/\Lib.OthersKept 5 (some b) w w':=by
 have hinf:(Tryz.prog.info? 5).map (fun i=>(i.size,i.bytes,i.zero))=some (1,1,some (.int .u8 0)):=dD
 obtain⟨i0,hi,htj⟩:=bA.1 hinf;simp only[Prod.mk.injEq] at htj;have HTI:=aV (aO hi (aO htj.1 (aO htj.2.1 htj.2.2)));have HCC:=aV (Any.Builder_copyCheck_k {Tryz.lays166 with} Tryz.Builder_Extra_166.toX72 b b (Lib.strCells t) w h);have HC:=aV hc;have HSZ:=aV hs
 have s0:(s.size:Int)<=140737488355328:=aJ
 have HLT:=aV h.lt;clear h hinf hi htj hc hs
 go_enter Tryz.func247,Tryz.ntmps247
 go_wp2_with fail
 refine HCC.out.mono ?_;rintro e w1 ⟨rfl,h1,hb1,hot⟩;obtain⟨hB,v,hbk,hown,hne⟩:=h1
 have c0:w1.cell? ⟨b,0,none⟩=some (.pointer (some ⟨b,0,none⟩)):=by rw[Lib.cell_of_heap hbk];rfl
 have c1:w1.cell? ⟨b,1,none⟩=some v:=by rw[Lib.cell_of_heap hbk];rfl
 have HN1:Hid (∀j u,(Lib.strCells s)[j]?=some u->w1.cell? ((⟨g,o,none⟩:Addr).add j)=some u):=fun j u hj=>by
  have hadd:(⟨g,o,none⟩:Addr).add j=⟨g,o+j,none⟩:=by unfold Addr.add;split<;>simp_all
  rw[hadd];exact(aF (w:=w) (a:=⟨g,o+j,none⟩) (hg w1 hb1 hot)).trans (HC.out j u hj)
 have HB1:=aV hb1;have HOT:=aV hot;have HOW:=aV hown;have tC:=aV (aO hbk hne)
 have acZ:Hid (∀u∈Lib.strCells s,u.oneCell'=true):=fun u hu=>by obtain⟨y,_,rfl⟩:=fP.1 hu;rfl
 have HLN:Hid ((Lib.strCells t).length+s.size<=140737488355328):=by rw[Lib.strCells_length];exact HSZ.out
 have HSL:Hid ((Lib.strCells s).length=s.size*1):=by show _=_;rw[Lib.strCells_length,PG]
 have HSB:Hid (b<=w1.heap.size):=by have:=HLT.out;have:=hb1.size;show _<=_;omega
 clear hbk hown hne hb1 hB hot hg
 go_wp2_with (at_builtin;refine wpList_append_ownF _ rfl _ _ 219 rfl b 5 i0 (.int .u8 0) 1 1 Tryz.underlying219 HTI.out.1 HTI.out.2.2.2 HTI.out.2.1 HTI.out.2.2.1 rfl bS _ _ _ rfl HOW.out ⟨g,o,none⟩ s.size c (Lib.strCells s) rfl HSL.out HN1.out acZ.out (by have:=HLN.out;unfold maxLen;omega) (by have:=HLN.out;omega) HSB.out ?_;intro v' w2 hown' hgrow hx;refine dO ?_)
 obtain⟨ao,n',cap,rfl⟩:∃ao n' cap,v'=.slice ao n' cap:=by
  rcases hown'.2 with ⟨hv,_⟩|⟨g,cap,cur,fz,hv,_⟩
  ·exact⟨_,_,_,hv⟩
  exact⟨_,_,_,hv⟩
 have hb2:w2.heap[b]?=some (.cells #[.pointer (some ⟨b,0,none⟩),v] 379 (0,0)):=(hgrow.block b (SQ tC.out.1) (fun e=>tC.out.2 e.symm)).trans tC.out.1
 have d0:w2.cell? ⟨b,0,none⟩=some (.pointer (some ⟨b,0,none⟩)):=by rw[Lib.cell_of_heap hb2];rfl
 have d1:w2.cell? ⟨b,1,none⟩=some v:=by rw[Lib.cell_of_heap hb2];rfl
 have f1:w2.frozen? ⟨b,1,none⟩=false:=Lib.frozen_of_heap hb2 1
 have HFIN:Hid (dW (w2.setCell ⟨b,1,none⟩ (.slice ao n' cap)) b (t++s)/\Below b w (w2.setCell ⟨b,1,none⟩ (.slice ao n' cap))/\Lib.OthersKept 5 (some b) w (w2.setCell ⟨b,1,none⟩ (.slice ao n' cap))):=by
  refine⟨aP ?_,?_,fun k o hk hn ho=>?_⟩
  ·rw[uM];exact Lib.BuilderAtF.put (T:=379) (e:=5) (ai _) hb2 (bs':=Lib.strCells t++Lib.strCells s) (by rw[aI,Lib.strCells_length s];exact hown') bS
  ·exact(HB1.out.grown hgrow HSB.out (fun k hk=>(HOW.out.lt k hk).1)).setCell (p:=⟨b,1,none⟩) (ai _) _
  have h1:=HOT.out k o hk hn ho;rw[au _ _ _ _ (show k≠b from fun e=>hn (by rw[e])),hgrow.block k (SQ h1) (fun e=>?_)]
  ·exact h1
  rcases HOW.out.2 with ⟨q,_⟩|⟨g2,cap2,cur,fz,q,_,hh,_⟩
  ·rw[q] at e;cases e
  rw[q] at e;have e2:k=g2:=ax e;rw[e2,hh] at h1;exact ho _ _ (ax h1).symm
 clear hown' hgrow hx hb2;unfold Hid
 go_wp2
 go_ret2;exact⟨rfl,HFIN.out⟩
theorem Vy(b:Nat)(t:ah)(c:UInt8)(x:Int)(hx:x=(c.toNat:Int))(w:ak)(h:dW w b t)(hs:t.size+1<=140737488355328):
  Calls Tryz.prog 246 #[.pointer (some ⟨b,0,none⟩),.int .u8 x] w fun e w'=>e=.returned .nilIface/\dW w' b (t++⟨#[c]⟩)/\Below b w w'/\Lib.OthersKept 5 (some b) w w':=by
 subst hx;refine(Any.Builder_WriteByte_k Tryz.lays167 Tryz.Builder_Extra_167 b b (Lib.strCells t) _ w h (by rw[Lib.strCells_length];exact hs) (iR h.lt)).mono ?_;rintro e w' ⟨he,h1,h2,h3⟩;refine⟨he,aP ?_,h2,h3⟩;rw[uM];exact h1
theorem JU(b:Nat)(t s:ah)(g o c:Nat)(w:ak)(h:dW w b t)(hg:g<b)(hs:t.size+s.size<=140737488355328)(hc:∀j u,(Lib.strCells s)[j]?=some u->w.cell? ⟨g,o+j,none⟩=some u):
  Calls Tryz.prog 247 #[.pointer (some ⟨b,0,none⟩),.slice (some ⟨g,o,none⟩) s.size c] w fun e w'=>e=.returned (.tuple #[.int .i64 s.size,.nilIface])/\dW w' b (t++s)/\Below b w w':=Hg b t s g o c w h (fun _ hb _=>hb.block g hg) hs hc|>.mono fun _ _ ⟨h1,h2,h3,_⟩=>⟨h1,h2,h3⟩
end
end Go.Proofs.YthhbpebihgjpjaaGreatDoor
