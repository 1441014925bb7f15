import Derived.Test.YthhbpebihgjpjaaGreatDoorShelf
import Derived.Test.YthhbpebihgjpjaaGreatDoorZ04
namespace Go.Proofs.YthhbpebihgjpjaaGreatDoor
set_option maxRecDepth 1000000
set_option maxHeartbeats 20000000
set_option linter.all false
section
open Go.RowKit Go.Shelf
def Bg(p:Nat->Bool):List UInt8->Nat
 |[]=>0
 |c::r=>if p c.toNat then Bg p r+1 else 0
def FD(p:Nat->Bool)(t:ah):Nat:=Bg p t.data.toList
theorem LP(p:Nat->Bool):∀l,Bg p l<=l.length
 |[]=>ai _
 |c::r=>by
  rw[Bg]
  split
  ·have:=LP p r;simp;omega
  omega
theorem jX(p:Nat->Bool)(t:ah):FD p t<=t.size:=LP p t.data.toList
theorem Uv(p:Nat->Bool):∀(l:List UInt8) (n:Nat),n<=l.length->(∀i c,i<n->l[i]?=some c->p c.toNat=true)->(∀c,l[n]?=some c->p c.toNat=false)->Bg p l=n
 |[],n,h,_,_=>by
  obtain rfl:n=0:=by simpa using h
  rfl
 |c::r,0,_,_,h2=>by
  rw[Bg,h2 c rfl];rfl
 |c::r,n+1,h,h1,h2=>by
  rw[Bg,h1 0 c (by omega) rfl,aD rfl,Uv p r n (by simpa using h) (fun i d hi hd=>h1 (i+1) d (by omega) (by simpa using hd)) (fun d hd=>h2 d (by simpa using hd))]
variable {t:ah}
theorem uX{i:Nat}{c:UInt8}(h:t.data.toList[i]?=some c):byteOf t i=c.toNat:=by
 unfold byteOf;rw[bV] at h;rw[h];rfl
theorem LV(p:Nat->Bool)(t:ah)(n:Nat)(hn:n<=t.size)(h1:∀i,i<n->p (byteOf t i)=true)(h2:n<t.size->p (byteOf t n)=false):FD p t=n:=by
 refine Uv p _ n hn (fun i c hi hc=>?_) (fun c hc=>?_)
 ·rw[<-uX hc];exact h1 i hi
 rw[<-uX hc];refine h2 ?_;have:=(aJ.1 hc).1
 simpa using this
theorem Ej(p:Nat->Bool):∀l:List UInt8,l.drop (Bg p l)=l.dropWhile fun c=>p c.toNat
 |[]=>rfl
 |c::r=>by
  rw[Bg]
  by_cases h:p c.toNat=true
  ·rw[aD h,List.drop_succ_cons,Ej p r,List.dropWhile_cons,aD h]
  rw[ax h,List.dropWhile_cons,ax h];rfl
theorem Qi(t:ah)(a:Nat):(t.extract a t.size).data.toList=t.data.toList.drop a:=by
 rw[gq,Pk];show(t.data.toList.drop a).take (t.data.size-a)=_;exact bF (by simp)
def agi(c:Nat):Bool:=c==32
def BF(t:ah):Nat:=FD agi t
def bD(t:ah):ah:=t.extract (BF t) t.size
def di(t:ah):Nat:=FD oD t
def fo(t:ah):ah:=t.extract 0 (di t)
def gL(t:ah):ah:=t.extract (di t) t.size
theorem KN(t:ah):(bD t).size=t.size-BF t:=by unfold bD;rw[aI];omega
theorem kD(t:ah):(bD t).size<=t.size:=by rw[KN];omega
theorem lX(t:ah):(fo t).size=di t:=by
 unfold fo;rw[aI];have:=jX oD t;unfold di;omega
theorem yc(t:ah):(gL t).size=t.size-di t:=by unfold gL;rw[aI];omega
theorem Wy(t:ah):bD t=⟨(Lib.trimLeftB t.data.toList 32).toArray⟩:=by
 have h:(bD t).data.toList=Lib.trimLeftB t.data.toList 32:=by
  unfold bD BF FD;rw[Qi,Ej];unfold Lib.trimLeftB
  congr 1
  funext c
  unfold agi;rw[sW];simp only[beq_iff_eq];exact⟨fun e=>qc.1 e,fun e=>by rw[e];rfl⟩
 apply ByteArray.ext;apply fD.1;rw[h]
theorem qD(t:ah)(n:Nat)(h:n<=t.size)(wx:aj):(Instr.slice 9 (.string t) none (some (.int .i64 n)) none).run Tryz.prog wx=.ok (.string (t.extract 0 n)) wx:=by
 have h1:(n:Int)<=(t.size:Int):=by omega
 simp[Instr.slice,mZ Tryz.underlying9,go_sem,h]
theorem nL(t:ah)(n:Nat)(h:n<=t.size)(wx:aj):(Instr.slice 9 (.string t) (some (.int .i64 n)) none none).run Tryz.prog wx=.ok (.string (t.extract n t.size)) wx:=by
 have h1:(n:Int)<=(t.size:Int):=by omega
 simp[Instr.slice,mZ Tryz.underlying9,go_sem,h]
theorem gG(t:ah)(w:aj):
  Calls Tryz.prog 191 #[.string t] w fun e w'=>e=.returned (.string (bD t))/\w'=w:=by
 have hC:=Any.strings_TrimLeft_one Tryz.lays161 t 32 (by decide) w;rw[<-Wy] at hC;have HC:=aP hC;clear hC
 go_enter Tryz.func191,Tryz.ntmps191
 go_wp2_with fail
 refine HC.out.mono ?_;rintro e w' ⟨rfl,rfl⟩
 go_wp2
 go_ret;exact⟨rfl,rfl⟩
theorem qy(t:ah)(ht:t.size<=1099511627776)(w:aj):
  Calls Tryz.prog 194 #[.string t] w fun e w'=>e=.returned (.tuple #[.string (fo t),.string (gL t)])/\∃n,w'=w.drewN n:=by
 have t0:(t.size:Int)<=1099511627776:=by omega
 go_enter Tryz.func194,Tryz.ntmps194
 go_wp2_with fail
 go_loop [4] (fun i=>∃j:Nat,i=.int .i64 j/\j<=t.size/\(∀k,k<j->oD (byteOf t k)=true)) (fun i=>t.size-(intOf i).toNat)
 case atStart=>exact⟨0,rfl,aN _,fun k hk=>by omega⟩
 case round=>
  obtain⟨j,rfl,hle,hag⟩:=hrel;have Rj:=aP hag;clear hag
  have j0:(0:Int)<=(j:Int):=by omega
  by_cases hlt:j<t.size
  ·have j1:(j:Int)<(t.size:Int):=by omega
   have hidx:∀wx,(Instr.index 9 (.string t) (.int .i64 j)).run Tryz.prog wx=.ok (.int .u8 (byteOf t j)) wx:=fun wx=>kF t j hlt wx
   obtain⟨x,hx⟩:∃x,x=byteOf t j:=⟨_,rfl⟩;have HX:=aP hx
   have hb:x<256:=by rw[hx];exact xB t j
   rw[<-hx] at hidx;clear hx
   go_wp2_with fail
   refine(FE x hb _).mono ?_;rintro e w' ⟨rfl,rfl⟩
   cases hw:oD x with
   |true=>
    have HR:Hid (∀k,k<j+1->oD (byteOf t k)=true):=fun k hk=>by
     rcases bR k j with c|c
     ·exact Rj.out k c
     obtain rfl:k=j:=by omega
     rw[<-HX.out];exact hw
    go_wp2_with fail
    exact⟨⟨j+1,by go_num,hlt,HR.out⟩,by simp[intOf];omega⟩
   |false=>
    have HW:Hid (di t=j):=LV _ _ _ hle Rj.out (fun _=>by rw[<-HX.out];exact hw)
    have hs1:∀wx,(Instr.slice 9 (.string t) none (some (.int .i64 j)) none).run Tryz.prog wx=.ok (.string (fo t)) wx:=fun wx=>by rw[qD t j hle wx,fo,HW.out]
    have hs2:∀wx,(Instr.slice 9 (.string t) (some (.int .i64 j)) none none).run Tryz.prog wx=.ok (.string (gL t)) wx:=fun wx=>by rw[nL t j hle wx,gL,HW.out]
    generalize hHd:fo t=hd at*;generalize hTl:gL t=tl at*;have HHd:=aP hHd;have HTl:=aP hTl;clear hHd hTl
    go_wp2_with fail
    go_region
    all_goals
     go_wp2
     go_ret2;exact⟨by rw[HHd.out,HTl.out];rfl,1,rfl⟩
  obtain rfl:j=t.size:=by omega
  have HW:Hid (di t=t.size):=LV _ _ _ hle Rj.out (fun h=>absurd h (FU _))
  have hs1:∀wx,(Instr.slice 9 (.string t) none (some (.int .i64 t.size)) none).run Tryz.prog wx=.ok (.string (fo t)) wx:=fun wx=>by rw[qD t t.size (ai _) wx,fo,HW.out]
  have hs2:∀wx,(Instr.slice 9 (.string t) (some (.int .i64 t.size)) none none).run Tryz.prog wx=.ok (.string (gL t)) wx:=fun wx=>by rw[nL t t.size (ai _) wx,gL,HW.out]
  generalize hHd:fo t=hd at*;generalize hTl:gL t=tl at*;have HHd:=aP hHd;have HTl:=aP hTl;clear hHd hTl
  go_wp2_with fail
  go_region
  all_goals
   go_wp2
   go_ret2;exact⟨by rw[HHd.out,HTl.out];rfl,1,rfl⟩
end
section
open Go.RowKit
def Ao(b:Nat)(d:Int)(k:Nat):Int:=if (bits .and .u32 (bits .xor .u32 d ((b:Int)/2 ^ k)) 1 !=0)=true then bits .xor .u32 (d/2) 3988292384 else d/2
def uh(b:Nat)(d:Int):Nat->Int
 |0=>d
 |k+1=>Ao b (uh b d k) k
def Dh(t:ah):Nat->Int
 |0=>4294967295
 |j+1=>uh (byteOf t j) (Dh t j) 8
def BM(t:ah):Int:=bits .xor .u32 IntKind.u32.max (Dh t t.size)
theorem Yg(a b:Int):0<=bits .xor .u32 a b/\bits .xor .u32 a b<=4294967295:=by
 have h:bits .xor .u32 a b=IntKind.u32.wrap ((BitVec.ofInt 32 a ^^^ BitVec.ofInt 32 b).toNat:Int):=rfl;rw[h,IntKind.wrap_u32];omega
variable {b:Nat}
theorem YQ{d:Int}(h:0<=d/\d<=4294967295)(k:Nat):0<=Ao b d k/\Ao b d k<=4294967295:=by
 unfold Ao
 split
 ·exact Yg _ _
 omega
theorem XO(t:ah):0<=BM t/\BM t<=4294967295:=Yg _ _
theorem XP(t:ah)(ht:t.size<=1099511627776)(w:aj):
  Calls Tryz.prog 251 #[.string t] w fun e w'=>e=.returned (.int .u32 (BM t))/\w'=w:=by
 have n0:(t.size:Int)<=1099511627776:=by omega
 go_enter Tryz.func251,Tryz.ntmps251
 go_wp2_with fail
 go_loop [3,9] (fun v i=>∃j:Nat,i=.int .i64 j/\v=.int .u32 (Dh t j)/\(0<=Dh t j/\Dh t j<=4294967295)/\j<=t.size) (fun _ i=>t.size-(intOf i).toNat)
 case atStart=>exact⟨0,rfl,rfl,⟨show(0:Int)<=4294967295 by decide,show(4294967295:Int)<=4294967295 by decide⟩,aN _⟩
 case round=>
  obtain⟨j,rfl,rfl,hc,hj⟩:=hrel;have HN:Hid (Dh t (j+1)=uh (byteOf t j) (Dh t j) 8):=rfl;have HE:Hid (BM t=bits .xor .u32 IntKind.u32.max (Dh t t.size)):=rfl
  by_cases hlt:j<t.size
  ·have j0:(0:Int)<=(j:Int):=by omega
   have j1:(j:Int)<(t.size:Int):=by omega
   have hidx:∀wx,(Instr.index 9 (.string t) (.int .i64 j)).run Tryz.prog wx=.ok (.int .u8 (byteOf t j)) wx:=fun wx=>kF t j hlt wx
   have hb:=xB t j;generalize byteOf t j=b at*;generalize Dh t j=c at*
   go_wp2_with fail
   go_loop [3,12] (fun v i=>∃k:Nat,i=.int .i64 k/\v=.int .u32 (uh b c k)/\(0<=uh b c k/\uh b c k<=4294967295)/\k<=8) (fun _ i=>8-(intOf i).toNat)
   case atStart=>exact⟨0,rfl,rfl,hc,aN _⟩
   case round=>
    obtain⟨k,rfl,rfl,hd,hk⟩:=hrel;have d0:=hd.1;have d1:=hd.2;have HK:Hid (uh b c (k+1)=Ao b (uh b c k) k):=rfl;have HO:Hid (0<=Ao b (uh b c k) k/\Ao b (uh b c k) k<=4294967295):=YQ hd k
    by_cases hkl:k<8
    ·have k1:(k:Int)<8:=by omega
     generalize hD:uh b c k=d at*;clear hD
     cases hq:(bits .and .u32 (bits .xor .u32 d ((b:Int)/2 ^ k)) 1 !=0) with
     |true=>
      have HS:Hid (Ao b d k=bits .xor .u32 (d/2) 3988292384):=aD hq
      go_wp2
      exact⟨⟨k+1,by go_num,by rw[HK.out,HS.out],by rw[HK.out];exact HO.out,by omega⟩,by simp[intOf];omega⟩
     |false=>
      have HS:Hid (Ao b d k=d/2):=ax (by rw[hq];decide)
      go_wp2
      exact⟨⟨k+1,by go_num,by rw[HK.out,HS.out],by rw[HK.out];exact HO.out,by omega⟩,by simp[intOf];omega⟩
    obtain rfl:k=8:=by omega
    go_wp2
    exact⟨⟨j+1,by go_num,by rw[HN.out],by rw[HN.out];exact hd,by omega⟩,by simp[intOf];omega⟩
  obtain rfl:j=t.size:=by omega
  generalize Dh t t.size=c at*;have c0:=hc.1;have c1:=hc.2
  go_wp2
  go_ret;exact⟨by rw[HE.out];rfl,rfl⟩
def wH(t:ah):Bool:=decide ((bD t).size=0\/byteOf (bD t) 0=35)
theorem qN(t:ah):t.toList.isEmpty=decide (t.size=0):=by
 rw[dX];show t.data.toList.isEmpty=decide (t.data.size=0);rw[<-aR]
 cases t.data.toList with
 |nil=>rfl
 |cons c r=>simp
def vU(t k:ah):Bool:=decide (fo t=k/\di t<t.size/\byteOf t (di t)=32)
end
section
open Go.RowKit Go.Shelf Go.Lib
def dP(w:aj)(b:Nat)(t:ah):Prop:=Lib.IsBuilderF 379 5 b b (Lib.strCells t) w
theorem uJ(s t:ah):Lib.strCells (s++t)=Lib.strCells s++Lib.strCells t:=by
 unfold Lib.strCells;rw[zZ,Array.toList_append,iC]
variable {b:Nat}{w w':aj}
theorem BuilderAtF.keep{T e:TypeId}{B:Nat}{p:Value}{bs:List Value}(h:Lib.BuilderAtF T e B b p bs w)(hb:∀k,k<w.heap.size->w'.heap[k]?=w.heap[k]?):Lib.BuilderAtF T e B b p bs w':=by
 have hlt:=h.lt;obtain⟨hB,v,hbk,hown,hne⟩:=h;refine⟨hB,v,(hb b hlt).trans hbk,?_,hne⟩;obtain⟨hl,h|⟨g,cap,cur,fz,hv,hg0,hg,hr⟩⟩:=hown
 ·exact⟨hl,aG h⟩
 exact⟨hl,aL ⟨g,cap,cur,fz,hv,hg0,(hb g (gI.1 hg).1).trans hg,hr⟩⟩
variable {t:ah}
theorem dP.keep(h:dP w b t)(hb:∀k,k<w.heap.size->w'.heap[k]?=w.heap[k]?):dP w' b t:=
 h.elim (fun x=>.inl (BuilderAtF.keep x hb)) (fun x=>.inr (BuilderAtF.keep x hb))
theorem dP.below(h:dP w b t)(hb:Below w.heap.size w w'):dP w' b t:=h.keep hb.block
theorem dP.lt(h:dP w b t):b<w.heap.size:=h.elim (fun x=>x.lt) (fun x=>x.lt)
theorem uW(w:aj):dP (w.alloc (.cells #[.pointer none,.slice none 0 0] 379)) w.heap.size ⟨#[]⟩:=IsBuilderF.of (Lib.fresh_isBuilder _ _ w)
theorem rG(b:Nat)(t s:ah)(w:aj)(h:dP w b t)(hs:t.size+s.size<=140737488355328):
  Calls Tryz.prog 245 #[.pointer (some ⟨b,0,none⟩),.string s] w fun e w'=>e=.returned (.tuple #[.int .i64 s.size,.nilIface])/\dP w' b (t++s)/\Below b w w':=by
 refine(Any.Builder_WriteString_k Tryz.lays166 Tryz.Builder_Extra_166 b b (Lib.strCells t) s w h (by rw[Lib.strCells_length];exact hs) (iM h.lt)).mono ?_;rintro e w' ⟨he,h1,h2,_⟩;refine⟨he,aL ?_,h2⟩;rw[uJ];exact h1
theorem Gb(b:Nat)(t s:ah)(w:aj)(h:dP w b t)(hs:t.size+s.size<=140737488355328):
  Calls Tryz.prog 245 #[.pointer (some ⟨b,0,none⟩),.string s] w fun e w'=>e=.returned (.tuple #[.int .i64 s.size,.nilIface])/\dP w' b (t++s)/\Below b w w'/\Lib.OthersKept 5 (some b) w w':=by
 refine(Any.Builder_WriteString_k Tryz.lays166 Tryz.Builder_Extra_166 b b (Lib.strCells t) s w h (by rw[Lib.strCells_length];exact hs) (iM h.lt)).mono ?_;rintro e w' ⟨he,h1,h2,h3⟩;refine⟨he,aL ?_,h2,h3⟩;rw[uJ];exact h1
theorem xA(b:Nat)(t:ah)(c:UInt8)(x:Int)(hx:x=(c.toNat:Int))(w:aj)(h:dP w b t)(hs:t.size+1<=140737488355328):
  Calls Tryz.prog 246 #[.pointer (some ⟨b,0,none⟩),.int .u8 x] w fun e w'=>e=.returned .nilIface/\dP w' b (t++⟨#[c]⟩)/\Below b w w':=by
 subst hx;refine(Any.Builder_WriteByte_k Tryz.lays167 Tryz.Builder_Extra_167 b b (Lib.strCells t) _ w h (by rw[Lib.strCells_length];exact hs) (iM h.lt)).mono ?_;rintro e w' ⟨he,h1,h2,_⟩;refine⟨he,aL ?_,h2⟩;rw[uJ];exact h1
theorem uV(b:Nat)(t:ah)(w:aj)(h:dP w b t):
  Calls Tryz.prog 248 #[.pointer (some ⟨b,0,none⟩)] w fun e w'=>e=.returned (.string t)/\dP w' b t/\Below b w w':=by
 refine(Any.Builder_String_any_k Tryz.lays169 Tryz.Builder_Extra_169 b b t.data.toList w h (iM h.lt)).mono ?_;rintro e w' ⟨he,h1,h2,_⟩;exact⟨he,h1,h2⟩
theorem JQ(b:Nat)(t:ah)(w:aj)(h:dP w b t):
  Calls Tryz.prog 275 #[.pointer (some ⟨b,0,none⟩)] w fun e w'=>e=.returned (.int .i64 t.size)/\w'=w:=by
 refine(Any.Builder_Len_f Tryz.lays170 b b (Lib.strCells t) w h).mono ?_;rintro e w' ⟨he,h1⟩;exact⟨by rw[he,Lib.strCells_length],h1⟩
end
section
open Go.RowKit Go.Shelf
variable {w:aj}
theorem SI{k:Nat}{o:Obj}(h:w.heap[k]?=some o):k<w.heap.size:=(gI.1 h).1
theorem Hf(b:Nat)(t s:ah)(g o c:Nat)(w:aj)(h:dP w b t)(hg:∀w',Below b w w'->Lib.OthersKept 5 (some b) w w'->w'.heap[g]?=w.heap[g]?)(hs:t.size+s.size<=140737488355328)(hc:∀j u,(Lib.strCells s)[j]?=some u->w.cell? ⟨g,o+j,none⟩=some u):
  Calls Tryz.prog 247 #[.pointer (some ⟨b,0,none⟩),.slice (some ⟨g,o,none⟩) s.size c] w fun e w'=>e=.returned (.tuple #[.int .i64 s.size,.nilIface])/\dP w' b (t++s)/\Below b w w'/\Lib.OthersKept 5 (some b) w w':=by
 have hinf:(Tryz.prog.info? 5).map (fun i=>(i.size,i.bytes,i.zero))=some (1,1,some (.int .u8 0)):=by kernel_rfl
 obtain⟨i0,hi,htj⟩:=aX.1 hinf;simp only[Prod.mk.injEq] at htj;have HTI:=aP (aK hi (aK htj.1 (aK htj.2.1 htj.2.2)));have HCC:=aP (Any.Builder_copyCheck_k {Tryz.lays166 with} Tryz.Builder_Extra_166.toX72 b b (Lib.strCells t) w h);have HC:=aP hc;have HSZ:=aP hs
 have s0:(s.size:Int)<=140737488355328:=by omega
 have HLT:=aP h.lt;clear h hinf hi htj hc hs
 go_enter Tryz.func247,Tryz.ntmps247
 go_wp2_with fail
 refine HCC.out.mono ?_;rintro e w1 ⟨rfl,h1,hb1,hot⟩;obtain⟨hB,v,hbk,hown,hne⟩:=h1
 have c0:w1.cell? ⟨b,0,none⟩=some (.pointer (some ⟨b,0,none⟩)):=by rw[Lib.cell_of_heap hbk];rfl
 have c1:w1.cell? ⟨b,1,none⟩=some v:=by rw[Lib.cell_of_heap hbk];rfl
 have HN1:Hid (∀j u,(Lib.strCells s)[j]?=some u->w1.cell? ((⟨g,o,none⟩:Addr).add j)=some u):=fun j u hj=>by
  have hadd:(⟨g,o,none⟩:Addr).add j=⟨g,o+j,none⟩:=by unfold Addr.add;split<;>simp_all
  rw[hadd];exact(aB (w:=w) (a:=⟨g,o+j,none⟩) (hg w1 hb1 hot)).trans (HC.out j u hj)
 have HB1:=aP hb1;have HOT:=aP hot;have HOW:=aP hown;have sZ:=aP (aK hbk hne)
 have acW:Hid (∀u∈Lib.strCells s,u.oneCell'=true):=fun u hu=>by obtain⟨y,_,rfl⟩:=fH.1 hu;rfl
 have HLN:Hid ((Lib.strCells t).length+s.size<=140737488355328):=by rw[Lib.strCells_length];exact HSZ.out
 have HSL:Hid ((Lib.strCells s).length=s.size*1):=by show _=_;rw[Lib.strCells_length,Pz]
 have HSB:Hid (b<=w1.heap.size):=by have:=HLT.out;have:=hb1.size;show _<=_;omega
 clear hbk hown hne hb1 hB hot hg
 go_wp2_with (at_builtin;refine wpList_append_ownF _ rfl _ _ 219 rfl b 5 i0 (.int .u8 0) 1 1 Tryz.underlying219 HTI.out.1 HTI.out.2.2.2 HTI.out.2.1 HTI.out.2.2.1 rfl (by decide) _ _ _ rfl HOW.out ⟨g,o,none⟩ s.size c (Lib.strCells s) rfl HSL.out HN1.out acW.out (by have:=HLN.out;unfold maxLen;omega) (by have:=HLN.out;omega) HSB.out ?_;intro v' w2 hown' hgrow hx;refine dI ?_)
 obtain⟨ao,n',cap,rfl⟩:∃ao n' cap,v'=.slice ao n' cap:=by
  rcases hown'.2 with ⟨hv,_⟩|⟨g,cap,cur,fz,hv,_⟩
  ·exact⟨_,_,_,hv⟩
  exact⟨_,_,_,hv⟩
 have hb2:w2.heap[b]?=some (.cells #[.pointer (some ⟨b,0,none⟩),v] 379 (0,0)):=(hgrow.block b (SI sZ.out.1) (fun e=>sZ.out.2 e.symm)).trans sZ.out.1
 have d0:w2.cell? ⟨b,0,none⟩=some (.pointer (some ⟨b,0,none⟩)):=by rw[Lib.cell_of_heap hb2];rfl
 have d1:w2.cell? ⟨b,1,none⟩=some v:=by rw[Lib.cell_of_heap hb2];rfl
 have f1:w2.frozen? ⟨b,1,none⟩=false:=Lib.frozen_of_heap hb2 1
 have HFIN:Hid (dP (w2.setCell ⟨b,1,none⟩ (.slice ao n' cap)) b (t++s)/\Below b w (w2.setCell ⟨b,1,none⟩ (.slice ao n' cap))/\Lib.OthersKept 5 (some b) w (w2.setCell ⟨b,1,none⟩ (.slice ao n' cap))):=by
  refine⟨aL ?_,?_,fun k o hk hn ho=>?_⟩
  ·rw[uJ];exact Lib.BuilderAtF.put (T:=379) (e:=5) (ai _) hb2 (bs':=Lib.strCells t++Lib.strCells s) (by rw[aF,Lib.strCells_length s];exact hown') (by decide)
  ·exact(HB1.out.grown hgrow HSB.out (fun k hk=>(HOW.out.lt k hk).1)).setCell (p:=⟨b,1,none⟩) (ai _) _
  have h1:=HOT.out k o hk hn ho;rw[iP (show k≠b from fun e=>hn (by rw[e])),hgrow.block k (SI h1) (fun e=>?_)]
  ·exact h1
  rcases HOW.out.2 with ⟨q,_⟩|⟨g2,cap2,cur,fz,q,_,hh,_⟩
  ·rw[q] at e;cases e
  rw[q] at e;have e2:k=g2:=ak e;rw[e2,hh] at h1;exact ho _ _ (ak h1).symm
 clear hown' hgrow hx hb2;unfold Hid
 go_wp2
 go_ret2;exact⟨rfl,HFIN.out⟩
theorem Vx(b:Nat)(t:ah)(c:UInt8)(x:Int)(hx:x=(c.toNat:Int))(w:aj)(h:dP w b t)(hs:t.size+1<=140737488355328):
  Calls Tryz.prog 246 #[.pointer (some ⟨b,0,none⟩),.int .u8 x] w fun e w'=>e=.returned .nilIface/\dP w' b (t++⟨#[c]⟩)/\Below b w w'/\Lib.OthersKept 5 (some b) w w':=by
 subst hx;refine(Any.Builder_WriteByte_k Tryz.lays167 Tryz.Builder_Extra_167 b b (Lib.strCells t) _ w h (by rw[Lib.strCells_length];exact hs) (iM h.lt)).mono ?_;rintro e w' ⟨he,h1,h2,h3⟩;refine⟨he,aL ?_,h2,h3⟩;rw[uJ];exact h1
theorem JU(b:Nat)(t s:ah)(g o c:Nat)(w:aj)(h:dP w b t)(hg:g<b)(hs:t.size+s.size<=140737488355328)(hc:∀j u,(Lib.strCells s)[j]?=some u->w.cell? ⟨g,o+j,none⟩=some u):
  Calls Tryz.prog 247 #[.pointer (some ⟨b,0,none⟩),.slice (some ⟨g,o,none⟩) s.size c] w fun e w'=>e=.returned (.tuple #[.int .i64 s.size,.nilIface])/\dP w' b (t++s)/\Below b w w':=Hf b t s g o c w h (fun _ hb _=>hb.block g hg) hs hc|>.mono fun _ _ ⟨h1,h2,h3,_⟩=>⟨h1,h2,h3⟩
