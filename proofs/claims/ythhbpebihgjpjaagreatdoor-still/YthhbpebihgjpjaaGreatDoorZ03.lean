import Derived.Test.YthhbpebihgjpjaaGreatDoorChecked
import Derived.BigQuiet
import Derived.Test.YthhbpebihgjpjaaGreatDoorZ02
namespace Go.Proofs.YthhbpebihgjpjaaGreatDoor
set_option maxRecDepth 1000000
set_option maxHeartbeats 20000000
set_option linter.all false
section
open Go.RowKit
def oD(c:Nat):Bool:=decide ((97<=c/\c<=122)\/(65<=c/\c<=90)\/(48<=c/\c<=57)\/c=95\/c=45)
def uD(c:Nat):Bool:=oD c||decide (c=46\/c=47)
def byteOf(t:ah)(i:Nat):Nat:=(t.data[i]?.getD 0).toNat
theorem xB(t:ah)(i:Nat):byteOf t i<256:=UInt8.toNat_lt _
def eD(t:ah):Bool:=decide (1<=t.size/\t.size<=32/\∀i,i<t.size->uD (byteOf t i)=true)
theorem FE(c:Nat)(hc:c<256)(w:aj):
  Calls Tryz.prog 203 #[.int .u8 c] w fun e w'=>e=.returned (.bool (oD c))/\w'=w:=by
 have c1:(c:Int)<256:=by omega
 go_enter Tryz.func203,Tryz.ntmps203
 go_wp2
 all_goals go_ret
 all_goals refine⟨?_,rfl⟩
 all_goals simp only[beq_iff_eq,lg,ne_eq] at*
 all_goals first
  | (have hx:oD c=true:=(by simp only[oD,kW];omega);rw[hx];rfl)
  | (have hx:oD c=false:=(by simp only[oD,rz];omega);rw[hx];rfl)
theorem QD(c:Nat)(hc:c<256)(w:aj):
  Calls Tryz.prog 122 #[.int .u8 c] w fun e w'=>e=.returned (.bool (uD c))/\w'=w:=by
 have c1:(c:Int)<256:=by omega
 go_enter Tryz.func122,Tryz.ntmps122
 go_wp2_with fail
 refine(FE c hc w).mono ?_;rintro e w' ⟨rfl,rfl⟩;have hn:uD c=(oD c||decide (c=46\/c=47)):=rfl;generalize oD c=b at*
 cases b
 ·go_wp2
  ·rename_i h46
   go_ret;refine⟨?_,rfl⟩;rw[hn,show decide (c=46\/c=47)=true by simp;omega];rfl
  go_ret;refine⟨?_,rfl⟩
  have hx:((c:Int)==46||(c:Int)==47)=decide (c=46\/c=47):=by rw[sW];simp;omega
  rw[hn,<-hx];rfl
 go_wp2
 go_ret;exact⟨by rw[hn];rfl,rfl⟩
theorem TF(t:ah)(h:¬(1<=t.size/\t.size<=32)):eD t=false:=by
 unfold eD;simp only[rz];intro hh;exact h ⟨hh.1,hh.2.1⟩
theorem ZC(t:ah)(i:Nat)(hi:i<t.size)(h:uD (byteOf t i)=false):eD t=false:=by
 unfold eD;simp only[rz];intro hh;rw[hh.2.2 i hi] at h;cases h
theorem WL(t:ah)(h1:1<=t.size)(h2:t.size<=32)(h:∀i,i<t.size->uD (byteOf t i)=true):eD t=true:=by
 unfold eD;simp only[kW];exact⟨h1,h2,h⟩
theorem NN(t:ah)(i:Nat)(hi:i<t.size):t.data[i]?=some (UInt8.ofNat (byteOf t i)):=by
 unfold byteOf;rw[wB hi];simp
theorem kF(t:ah)(j:Nat)(h:j<t.size)(wx:aj):(Instr.index 9 (.string t) (.int .i64 j)).run Tryz.prog wx=.ok (.int .u8 (byteOf t j)) wx:=by
 have e:t[j]?=some t[j]:=Ze t j h
 have e2:(t.data[j]?.getD 0)=t[j]:=by
  rw[wB h];rfl
 simp[Instr.index,go_sem,byteOf,e,e2]
theorem sG(t:ah)(w:aj):
  Calls Tryz.prog 73 #[.string t] w fun e w'=>e=.returned (.bool (eD t))/\w'=w:=by
 go_enter Tryz.func73,Tryz.ntmps73
 by_cases hs:1<=t.size/\t.size<=32
 ·obtain⟨h1,h2⟩:=hs
  have z1:¬(t.size:Int)<1:=by omega
  have z2:¬(32:Int)<(t.size:Int):=by omega
  have z3:(t.size:Int)<=32:=by omega
  go_wp2
  go_loop [14] (fun c=>∃j:Nat,j<=t.size/\c=.int .i64 j/\Hid (∀i,i<j->uD (byteOf t i)=true)) (fun c=>t.size-(intOf c).toNat)
  case atStart=>exact⟨0,by omega,rfl,fun i hi=>by omega⟩
  case round=>
   obtain⟨j,hj,rfl,HG⟩:=hrel
   by_cases hlt:j<t.size
   ·have i0:(0:Int)<=(j:Int):=by omega
    have i1:(j:Int)<(t.size:Int):=by omega
    have hb:=xB t j
    have hidx:∀wx,(Instr.index 9 (.string t) (.int .i64 j)).run Tryz.prog wx=.ok (.int .u8 (byteOf t j)) wx:=by
     intro wx;exact kF t j hlt wx
    obtain⟨x,hx⟩:∃x,x=byteOf t j:=⟨_,rfl⟩;rw[<-hx] at hidx hb;have HX:=aP hx;clear hx
    go_wp2_with fail
    refine(QD x hb _).mono ?_;rintro e w' ⟨rfl,rfl⟩
    by_cases hgood:uD x=true
    ·rw[hgood]
     have HG2:Hid (∀i,i<j+1->uD (byteOf t i)=true):=fun i hi=>by
      by_cases e:i=j
      ·subst e;rw[<-HX.out];exact hgood
      exact HG.out i (by omega)
     go_wp2
     go_round
     case rel=>exact⟨j+1,by omega,by go_num,HG2⟩
     case measure=>simp[intOf];omega
    have hbad:uD x=false:=by simpa using hgood
    rw[hbad];have HN:Hid (eD t=false):=ZC t j hlt (by rw[<-HX.out];exact hbad)
    go_wp2
    go_ret;exact⟨by rw[HN.out];rfl,rfl⟩
   have hjs:j=t.size:=by omega
   subst hjs;have HN:=aP (WL t h1 h2 HG.out)
   go_wp2
   go_ret;exact⟨by rw[HN.out];rfl,rfl⟩
 have hn:=TF t hs;rw[hn]
 by_cases h1:t.size<1
 ·have z1:(t.size:Int)<1:=by omega
  go_wp2
  go_ret;exact⟨rfl,rfl⟩
 have z1:¬(t.size:Int)<1:=by omega
 have z2:(32:Int)<(t.size:Int):=by omega
 go_wp2
 go_ret;exact⟨rfl,rfl⟩
theorem jq(w:aj)(cs:Array Value)(t:TypeId)(j:Nat)(v:Value)(h:cs[j]?=some v):(w.alloc (.cells cs t)).cell? ⟨w.heap.size,j,none⟩=some v:=by
 rw[bZ (aW w _ _ rfl)];exact h
end
section
open Go.RowKit Go.Maps
structure zC where
 R:Value->Option (DataW Unit×List MemPlace)
 inj:∀{v v':Value} {d:DataW Unit} {p p':List MemPlace},R v=some (d,p)->R v'=some (d,p')->v=v'
def Xr(name:ah):Lit:=.string name.data.toList
theorem UK{a b:ah}(h:Xr a=Xr b):a=b:=by
 unfold Xr at h;injection h with h;exact ByteArray.ext (fD.1 h)
theorem Yd(name:ah):WideAt.IsKeyLit (Xr name):=trivial
theorem Rh(name:ah)(h:name.size<=maxLen):keyOf Tryz.prog 9 (.string name)=some (Xr name):=WideMaps.keyOf_string_mk Tryz.underlying9 h
theorem agp:Keyed Tryz.prog 9:=string_keyed Tryz.underlying9
def dU(C:zC)(z:Value)(w:aj)(b n:Nat)(f:ah->Option Value):Prop:=
 ∃D zd zp,C.R z=some (zd,zp)/\w.ownsMap Tryz.prog 9 C.R b n D/\(∀x,Maps.has D (Xr x)=(f x).isSome)/\∀x,∃p,C.R ((f x).getD z)=some (D.atKey (Xr x) zd,p)
variable {C:zC}{z:Value}{w:aj}{b n:Nat}{f:ah->Option Value}
theorem dU.lt(h:dU C z w b n f):b<w.heap.size:=let ⟨_,_,_,_,ho,_⟩:=h;ho.lt
variable {w':aj}
theorem dU.keep(h:dU C z w b n f)(e:w'.heap[b]?=w.heap[b]?):dU C z w' b n f:=by
 obtain⟨D,zd,zp,h0,⟨es,clock,hb,r⟩,hh⟩:=h;exact⟨D,zd,zp,h0,⟨es,clock,e.trans hb,r⟩,hh⟩
variable {t e:TypeId}
theorem dU.look(h:dU C z w b n f)(ht:Tryz.prog.underlying t=some (.map 9 e))(hz:∀w,(zeroValue e).run Tryz.prog w=.ok z w)(x:ah)(hx:x.size<=maxLen):
  (Instr.lookup t (.map (some b)) (.string x) false).run Tryz.prog w=.ok ((f x).getD z) w:=by
 obtain⟨D,zd,zp,h0,ho,hh,ha⟩:=h;obtain⟨v,ps,hrun,hv⟩:=ho.lookup agp ht (hz w) h0 (Rh x hx);obtain⟨p,hp⟩:=ha x;rw[hrun,C.inj hv hp]
theorem dU.look_ok(h:dU C z w b n f)(ht:Tryz.prog.underlying t=some (.map 9 e))(hz:∀w,(zeroValue e).run Tryz.prog w=.ok z w)(x:ah)(hx:x.size<=maxLen):
  (Instr.lookup t (.map (some b)) (.string x) true).run Tryz.prog w=.ok (.tuple #[(f x).getD z,.bool (f x).isSome]) w:=by
 obtain⟨D,zd,zp,h0,ho,hh,ha⟩:=h;obtain⟨v,ps,hrun,hv⟩:=ho.look_ok agp ht (hz w) h0 (Rh x hx);obtain⟨p,hp⟩:=ha x;rw[hrun,C.inj hv hp,hh x]
theorem dU.store(h:dU C z w b n f)(ht:Tryz.prog.underlying t=some (.map 9 e))(hn:n<maxLen)(x:ah)(hx:x.size<=maxLen)(v:Value)(hv:∃d ps,C.R v=some (d,ps)):
  ∃w',(Instr.mapUpdate t (.map (some b)) (.string x) v).run Tryz.prog w=.ok () w'/\dU C z w' b (n+1) (fun y=>if y=x then some v else f y)/\w.grownBy w' (some b):=by
 obtain⟨D,zd,zp,h0,ho,hh,ha⟩:=h;obtain⟨d,ps,hv⟩:=hv;obtain⟨w',hrun,ho',hg⟩:=ho.update agp ht hn (Rh x hx) hv;refine⟨w',hrun,⟨_,zd,zp,h0,ho',fun y=>?_,fun y=>?_⟩,hg⟩
 ·show _=(if y=x then some v else f y).isSome
  by_cases e:y=x
  ·subst e;rw[aD rfl,has_put_same ho.isMap (Yd _)];rfl
  rw[ax e,has_put_other (fun h=>e (UK h))];exact hh y
 show∃p,C.R ((if y=x then some v else f y).getD z)=_
 by_cases e:y=x
 ·subst e;rw[aD rfl,atKey_put_same ho.isMap (Yd _)];exact⟨ps,hv⟩
 rw[ax e,atKey_put_other (fun h=>e (UK h))];exact ha y
theorem dU.made(C:zC)(z:Value)(hz:∃d p,C.R z=some (d,p))(w:aj):dU C z (w.alloc (.map #[] 0)) w.heap.size 0 (fun _=>none):=by
 obtain⟨d,p,hz⟩:=hz;exact⟨_,d,p,hz,World.ownsMap_made w _ _ _,fun _=>rfl,fun _=>⟨p,hz⟩⟩
def adx:Value->Option (DataW Unit×List MemPlace)
 |.func (.func k) a b=>if a=#[]/\b=#[] then some (.lit (.int .i64 k),[]) else none
 |.nilFunc=>some (.lit (.int .i64 (-1)),[])
 |_=>none
theorem abf{v v':Value}{d:DataW Unit}{p p':List MemPlace}(h:adx v=some (d,p))(h':adx v'=some (d,p')):v=v':=by
 unfold adx at h h'
 split at h
 ·split at h
  ·rename_i k a b e
   obtain⟨rfl,rfl⟩:=e;have hd:=gW Prod.fst (ak h)
   split at h'
   ·split at h'
    ·rename_i k' a' b' e'
     obtain⟨rfl,rfl⟩:=e';have hd':=gW Prod.fst (ak h');rw[<-hd] at hd';injection hd' with hd';injection hd' with _ hd';rw[Int.ofNat_inj.1 hd']
    cases h'
   ·have hd':=gW Prod.fst (ak h');rw[<-hd] at hd';injection hd' with hd';injection hd' with _ hd';omega
   cases h'
  cases h
 ·have hd:=gW Prod.fst (ak h)
  split at h'
  ·split at h'
   ·have hd':=gW Prod.fst (ak h');rw[<-hd] at hd';injection hd' with hd';injection hd' with _ hd';omega
   cases h'
  ·rfl
  cases h'
 cases h
def ahX:zC:=⟨adx,abf⟩
end
section
open Go.RowKit
def jB(at':Int)(rv:Value)(e:Ending)(w':aj):Prop:=∃b,e=.panicked [{v:=.iface 129 (.pointer (some ⟨b,0,none⟩)),recovered:=false}]/\w'.cell? ⟨b,0,none⟩=some (.int .i64 at')/\w'.cell? ⟨b,1,none⟩=some rv
theorem Sy(rb:Nat)(n:Int)(T:TypeId)(p:Value)(w:aj)(h:w.cell? ⟨rb,0,none⟩=some (.int .i64 n)):
  Calls Tryz.prog 189 #[.pointer (some ⟨rb,0,none⟩),.iface T p] w fun e w'=>jB n (.iface T p) e w'/\Below w.heap.size w w':=by
 go_enter Tryz.func189,Tryz.ntmps189
 go_wp2
 refine⟨rfl,⟨w.heap.size,rfl,?_,?_⟩,(au _ _).alloc (ai _) _⟩
 ·simp[go_sem]
 simp[go_sem]
theorem gD(rv sv:Value)(w:aj):
  Calls Tryz.prog 112 #[rv,.bool true,sv] w fun e w'=>e=.returned (.tuple #[])/\w'=w:=by
 go_enter Tryz.func112,Tryz.ntmps112
 go_wp2
 go_end0
 exact⟨rfl,rfl⟩
theorem pq(rb:Nat)(n:Int)(T:TypeId)(p:Value)(w:aj)(h:w.cell? ⟨rb,0,none⟩=some (.int .i64 n)):
  Calls Tryz.prog 112 #[.pointer (some ⟨rb,0,none⟩),.bool false,.iface T p] w fun e w'=>jB n (.iface T p) e w'/\Below w.heap.size w w':=by
 have HF:=aP (Sy rb n T p w h);clear h
 go_enter Tryz.func112,Tryz.ntmps112
 go_wp2_with fail
 refine HF.out.mono ?_;rintro e w' ⟨⟨b,rfl,h0,h1⟩,hb⟩;exact⟨rfl,⟨b,rfl,h0,h1⟩,hb⟩
structure ahR(Q:Exit->Act->aj->Prop)(e:Exit)(a:Act)(w:aj):Prop where
 out:Q e a w
variable {Q:Exit->Act->aj->Prop}{a:Act}{w:aj}
theorem Yf{P:Program}{c:Code}(h:c.wp P (ahR Q) a w):c.wp P Q a w:=wp_mono h (fun _ _ _ h=>h.out)
theorem XU{e:Exit}(h:Q e a w):ahR Q e a w:=⟨h⟩
theorem VG(p:Addr)(w:aj):
  CallsD Tryz.prog 110 #[.pointer (some p)] .returning w fun e u' w'=>e=.returned (.tuple #[])/\u'=.returning/\w'=w:=by
 refine callsD_of_wpS Tryz.func110 rfl fun c₀ cs hu=>?_
 apply wpS_seq;apply wpS_region
 simp[wpOpsS,go_sem,recoverD,hu,Tryz.ntmps110,Exit.thenS]
 have hT:#[Value.pointer (some p)]++((Array.replicate 16 undef).setIfInBounds 3 Value.nilIface).setIfInBounds 0 Value.nilIface=#[.pointer (some p),.nilIface,undef,undef,.nilIface,undef,undef,undef,undef,undef,undef,undef,undef,undef,undef,undef,undef]:=rfl;rw[hT];refine wpS_of_wp (Yf ?_)
 go_wp2
 refine XU ?_
 cases c₀
 simp_all [bodyPostS,results,Tryz.results110]
theorem IQ(p:Addr)(b:Nat)(v0:Value)(w:aj)(hc:w.cell? p=some v0)(hz:w.frozen? p=false):
  CallsD Tryz.prog 110 #[.pointer (some p)] (.panicking [{v:=.iface 129 (.pointer (some ⟨b,0,none⟩)),recovered:=false}]) w fun e u' w'=>e=.returned (.tuple #[])/\u'=.panicking [{v:=.iface 129 (.pointer (some ⟨b,0,none⟩)),recovered:=true}]/\w'=w.setCell p (.iface 129 (.pointer (some ⟨b,0,none⟩))):=by
 have hta:∀w,(Instr.typeAssert (.iface 129 (.pointer (some ⟨b,0,none⟩))) 20 129 true).run Tryz.prog w=.ok (.tuple #[.pointer (some ⟨b,0,none⟩),.bool true]) w:=fun w=>by kernel_rfl
 refine callsD_of_wpS Tryz.func110 rfl fun c₀ cs hu=>?_
 apply wpS_seq;apply wpS_region
 simp[wpOpsS,go_sem,recoverD,hu,Tryz.ntmps110,Exit.thenS]
 have hT:∀V:Value,#[Value.pointer (some p)]++((Array.replicate 16 undef).setIfInBounds 3 V).setIfInBounds 0 V=#[.pointer (some p),V,undef,undef,V,undef,undef,undef,undef,undef,undef,undef,undef,undef,undef,undef,undef]:=fun _=>rfl
 rw[hT];refine wpS_of_wp (Yf ?_)
 go_wp2
 refine XU ?_
 cases c₀
 simp_all [bodyPostS,results,Tryz.results110]
theorem LM(b o L cap:Nat)(h:L+1<=cap):∃o',(∀k,k<L->o'+k=o+1+k)/\∀wx,(Instr.slice 32 (.slice (some ⟨b,o,none⟩) (L+1) cap) (some (.int .i64 1)) none none).run Tryz.prog wx=.ok (.slice (some ⟨b,o',none⟩) L (cap-1)) wx:=by
 by_cases hc:cap=1
 ·subst hc
  obtain rfl:L=0:=by omega
  exact⟨o,fun k hk=>by omega,fun wx=>by kernel_rfl⟩
 refine⟨o+1,fun k _=>rfl,fun wx=>?_⟩
 simp[Instr.slice,mZ Tryz.underlying32,go_sem,hc]
 intro hh;omega
structure Pw where
 kd:Int
 a:Int
 b:Int
 s:ah
 t:ah
def Pw.vals(x:Pw):List Value:=[.int .i64 x.kd,.int .i64 x.a,.int .i64 x.b,.string x.s,.string x.t]
structure tJ(w:aj)(x:Pw)(b o:Nat):Prop where
 cells:w.rangeAt b o x.vals
 lt:b<w.heap.size
 sS:x.s.size<=140737488351232
 sT:x.t.size<=140737488351232
def qF(w:aj)(ao:Option Addr)(n:Nat):Prop:=
 n<=140737488351232/\(n=0\/∃b o,ao=some ⟨b,o,none⟩/\∀i,i<n->∃x,tJ w x b (o+i*5))
variable {w':aj}{x:Pw}{b o:Nat}
theorem tJ.later(h:tJ w x b o)(hs:w.heap.size<=w'.heap.size)(hb:∀k,k<w.heap.size->w'.heap[k]?=w.heap[k]?):tJ w' x b o:=
 ⟨fun j v hv=>by rw[aB (w:=w) (a:=⟨b,o+j,none⟩) (hb b h.lt)];exact h.cells j v hv,by have:=h.lt;omega,h.sS,h.sT⟩
variable {n:Nat}
theorem qF.later{ao:Option Addr}(h:qF w ao n)(hs:w.heap.size<=w'.heap.size)(hb:∀k,k<w.heap.size->w'.heap[k]?=w.heap[k]?):qF w' ao n:=by
 obtain⟨h0,h|⟨b,o,e,h⟩⟩:=h
 ·exact⟨h0,aG h⟩
 refine⟨h0,aL ⟨b,o,e,fun i hi=>?_⟩⟩;obtain⟨x,hx⟩:=h i hi;exact⟨x,hx.later hs hb⟩
theorem tJ.c0(h:tJ w x b o):w.cell? ⟨b,o,none⟩=some (.int .i64 x.kd):=h.cells 0 _ rfl
theorem tJ.c1(h:tJ w x b o):w.cell? ⟨b,o+1,none⟩=some (.int .i64 x.a):=h.cells 1 _ rfl
theorem tJ.c2(h:tJ w x b o):w.cell? ⟨b,o+2,none⟩=some (.int .i64 x.b):=h.cells 2 _ rfl
theorem tJ.c3(h:tJ w x b o):w.cell? ⟨b,o+3,none⟩=some (.string x.s):=h.cells 3 _ rfl
theorem tJ.c4(h:tJ w x b o):w.cell? ⟨b,o+4,none⟩=some (.string x.t):=h.cells 4 _ rfl
theorem Ws(ao:Option Addr)(n cap:Nat)(w:aj)(hs:qF w ao n):
  Calls Tryz.prog 16 #[.slice ao n cap] w fun e w'=>∃r:Bool,e=.returned (.bool r)/\(r=true->n<=32768)/\Below w.heap.size w w':=by
 have HS:=aP hs;have hn:=hs.1;clear hs
 have n0:(n:Int)<=140737488351232:=by omega
 go_enter Tryz.func16,Tryz.ntmps16
 by_cases hgr:32768<n
 ·have g1:(32768:Int)<(n:Int):=by omega
  go_wp2
  go_ret;exact⟨false,rfl,fun h=>(by cases h),au _ _⟩
 have g1:¬(32768:Int)<(n:Int):=by omega
 go_wp2_with fail
 go_loopw [3,4] (fun N i wr=>∃(x:Int) (j:Nat),N=.int .i64 x/\i=.int .i64 j/\j<=n/\Below w.heap.size w wr) (fun _ i _=>n-(intOf i).toNat)
 case atStart=>exact⟨_,0,rfl,rfl,by omega,au _ _⟩
 case round=>
  obtain⟨x,j,rfl,rfl,hj,hbel⟩:=hrel;have HB:=aP hbel
  by_cases hlt:j<n
  ·obtain⟨b,o,rfl,hop⟩:∃b o,ao=some ⟨b,o,none⟩/\∃y,tJ w y b (o+j*5):=by
    obtain⟨_,h|⟨b,o,e,h⟩⟩:=HS.out
    ·omega
    exact⟨b,o,e,h j hlt⟩
   obtain⟨y,hy0⟩:=hop;have hy:tJ wr y b (o+j*5):=hy0.later hbel.size hbel.block;have c3:=hy.c3;have c4:=hy.c4;have hsS:=hy.sS;have hsT:=hy.sT;obtain⟨kd,ya,yb,ys,yt⟩:=y;simp only at c3 c4 hsS hsT;clear hy hy0 hbel
   have i0:(0:Int)<=(j:Int):=by omega
   have i1:(j:Int)<(n:Int):=by omega
   go_wp2
   go_quiet (fail)
   have HB2:Hid (Below w.heap.size w (wr.drewN nq)):=HB.out.trans ⟨rfl,rfl,rfl,ai _,fun _ _=>rfl⟩;clear c3 c4;generalize wr.drewN nq=w2 at*
   go_wp2
   ·go_ret;exact⟨false,rfl,fun h=>(by cases h),HB2.out⟩
   exact⟨⟨_,j+1,rfl,by go_num,by omega,HB2.out⟩,by simp[intOf];omega⟩
  obtain rfl:j=n:=by omega
  go_wp2
  go_ret;exact⟨true,rfl,fun _=>by omega,HB.out⟩
