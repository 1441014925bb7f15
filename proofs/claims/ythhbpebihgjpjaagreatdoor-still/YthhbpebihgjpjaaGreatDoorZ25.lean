import Derived.Test.YthhbpebihgjpjaaGreatDoorZ24
import Derived.Laws.EntriesVeiled
namespace Go.Proofs.YthhbpebihgjpjaaGreatDoor
set_option maxRecDepth 1000000
set_option maxHeartbeats 20000000
set_option linter.all false
section
open Go.RowKit Go.MuLone Go.Maps
theorem WT(l:List jv):∀(j:Nat) (x:jv),l[j]?=some x->(rX l)[j*3]?=some (.func (.func x.fn) #[] x.cap)/\(rX l)[j*3+1]?=some (.string x.data)/\(rX l)[j*3+2]?=some (.bool x.cuts):=by
 induction l with
 |nil=>intro j x h;simp at h
 |cons y l ih=>
  intro j x h
  cases j with
  |zero=>simp at h;subst h;exact⟨rfl,rfl,rfl⟩
  |succ j=>
   have h2:=ih j x (by simpa using h)
   have e:∀r,(rX (y::l))[(j+1)*3+r]?=(rX l)[j*3+r]?:=fun r=>by
    have:(j+1)*3+r=(j*3+r)+3:=by omega
    rw[this];rfl
   exact⟨(e 0).trans h2.1,(e 1).trans h2.2.1,(e 2).trans h2.2.2⟩
variable {v:Value}{l:List jv}{w:aj}
theorem uS.cell(h:uS v l w)(j:Nat)(x:jv)(hj:l[j]?=some x):∃g cap,v=.slice (some ⟨g,0,none⟩) l.length cap/\w.cell? ⟨g,j*3,none⟩=some (.func (.func x.fn) #[] x.cap)/\w.cell? ⟨g,j*3+1,none⟩=some (.string x.data)/\w.cell? ⟨g,j*3+2,none⟩=some (.bool x.cuts):=by
 have hlt:j<l.length:=(aJ.1 hj).1;obtain⟨_,⟨rfl,h0⟩|⟨g,cap,cur,rfl,_,hh,_,_,_,htk⟩⟩:=h.own
 ·omega
 have e:∀i u,i<l.length*3->(rX l)[i]?=some u->w.cell? ⟨g,i,none⟩=some u:=fun i u hi hu=>by
  rw[bZ hh,<-bV];rw[<-htk,xL,aD hi] at hu;exact hu
 have h2:=WT l j x hj;exact⟨g,cap,rfl,e _ _ (by omega) h2.1,e _ _ (by omega) h2.2.1,e _ _ (by omega) h2.2.2⟩
theorem uS.cap(h:uS v l w):(v=.slice none 0 0/\l=[])\/∃g cap,v=.slice (some ⟨g,0,none⟩) l.length cap/\l.length<=cap:=by
 obtain⟨_,⟨rfl,h0⟩|⟨g,cap,cur,rfl,_,hh,h1,_⟩⟩:=h.own
 ·exact aG ⟨rfl,mF h0⟩
 exact aL ⟨g,cap,rfl,h1⟩
variable {fb:Nat}
theorem kH.part{o:lu}{k:jv}(h:kH fb o w k):vX o k.data=o/\k.data.size<=o.data.size/\k.cuts=decide (o.kind<=2)/\(o.kind<=2->k.data=o.data):=by
 obtain⟨bf,bn,h1,h2,h3⟩:=h
 rcases h3 with ⟨hk,rfl⟩|⟨hk,rfl⟩|⟨hk,bt,h4,rfl⟩|⟨hk,rfl⟩
 ·exact⟨by rw[vX,aD (by omega)],ai _,by simp[hk],fun _=>rfl⟩
 ·exact⟨by rw[vX,aD (by omega)],ai _,by simp[hk],fun _=>rfl⟩
 ·exact⟨by rw[vX,ax (by omega)],aN _,by simp[hk],fun h=>by omega⟩
 exact⟨by rw[vX,ax (by omega)],aN _,by simp[hk],fun h=>by omega⟩
theorem bC.c5{d:dQ}{lk:Int}{nb sb:Nat}{sv:Value}(h:bC w fb d lk nb sb sv):w.cell? ⟨fb,5,none⟩=some sv:=by rw[bZ h];rfl
def Yj(L:List bL)(M:Nat)(d:dQ)(fb:Nat)(w:aj)(e:Ending)(w':aj):Prop:=
 e=.returned (.tuple #[])/\∃nb sb,bC w' fb {d with fuse:=0,down:=false} 0 nb sb (.slice none 0 0)/\dw w' nb M L/\dw w' sb M L/\aQ (fun k=>k=fb) w w'/\w.heap.size<=nb/\w.heap.size<=sb/\nb≠sb
structure aeD(r:bS)(d:dQ)(fb nb sb m:Nat)(sv:Value)(w:aj)(j:Nat)(wr:aj):Prop where
 row:bC wr fb d 1 nb sb sv
 map:dw wr nb (m+j) (jl r j)
 turns:aQ (fun k=>k=fb) w wr
theorem Nj(keep cut:Int)(d:dQ)(fb:Nat)(nb sb m:Nat)(sv:Value)(S:List jv)(r:bS)(w:aj)
  (h:bC w fb d 0 nb sb sv) (hm:dw w sb m r.safe) (hS:uS sv S w) (hne:sv.ownBlock≠some fb/\sb≠fb) (hlen:S.length=r.wait.length) (hsl:S.length<=1099511627776)
  (htie:∀j k,S[j]?=some k->kH fb (iw r.wait j) w k/\∀b,lM k b->b≠fb) (hok:∀j,j<r.wait.length->JI (jl r j) (iw r.wait j)) (hkept:∀j,j<=r.wait.length->totalBytes (jl r j)<=65536) (hroom:m+r.wait.length<maxLen):
  Calls Tryz.prog 40 #[.pointer (some ⟨fb,0,none⟩),.int .i64 keep,.int .i64 cut] w (Yj (iK r keep cut) (m+r.wait.length) d fb w):=by
 have h0:w.cell? ⟨fb,0,none⟩=some (.int .i32 0):=by rw[bZ h];rfl
 have f0:w.frozen? ⟨fb,0,none⟩=false:=iG h;have HR1:=aP (h.setLock 1);have HT1:Hid (aQ (fun k=>k=fb) w (w.setCell ⟨fb,0,none⟩ (.int .i32 1))):=(aQ.refl _ w).setCell ⟨fb,0,none⟩ _ (aG rfl);have HM1:Hid (dw (w.setCell ⟨fb,0,none⟩ (.int .i32 1)) sb m r.safe):=hm.keep (iP hne.2);have HSV:=aP hS;have HTIE:=aP htie;have HOK:=aP hok;have HKP:=aP hkept;have hfb:fb<w.heap.size:=h.lt;clear h hm hS htie hok hkept
 go_enter_defers Tryz.func40,Tryz.ntmps40
 go_wp2_with (go_at_call 58;refine(lock_free kg ⟨fb,0,none⟩ _ h0 f0).mono ?_;rintro e w1 ⟨rfl,rfl⟩;refine dI ?_)
 clear h0 f0;generalize w.setCell ⟨fb,0,none⟩ (.int .i32 1)=w2 at*
 have c4:w2.cell? ⟨fb,4,none⟩=some (.map (some sb)):=by rw[bZ HR1.out];rfl
 obtain⟨es,clock,hb2,hz2⟩:=HM1.out.cloned;have HCL:=aP (NT sb es clock w2 hb2);have HR3:Hid (bC (w2.alloc (.map es clock)) fb d 1 nb sb sv):=(aZ w2 _ fb HR1.out.lt).trans HR1.out;have HT3:Hid (aQ (fun k=>k=fb) w (w2.alloc (.map es clock))):=HT1.out.trans (aQ.of_below (fun k=>k=fb) ((au _ _).alloc (ai _) _)) (fun i hi=>aG hi);have HZ3:=aP hz2;have hws:w.heap.size<=w2.heap.size:=HT1.out.size;clear hb2 hz2 HR1 HM1 HT1;unfold Hid
 go_wp2_with fail
 refine HCL.out.mono ?_;rintro e w3 ⟨rfl,rfl⟩;clear HCL;generalize w2.heap.size=nb2 at*;generalize w2.alloc (.map es clock)=w3 at*;have f3:w3.frozen? ⟨fb,3,none⟩=false:=iG HR3.out
 have c3:w3.cell? ⟨fb,3,none⟩=some (.map (some nb)):=by rw[bZ HR3.out];rfl
 have HR4:=aP (HR3.out.setNow nb2);have HT4:Hid (aQ (fun k=>k=fb) w (w3.setCell ⟨fb,3,none⟩ (.map (some nb2)))):=HT3.out.setCell ⟨fb,3,none⟩ _ (aG rfl);have HZ4:Hid (dw (w3.setCell ⟨fb,3,none⟩ (.map (some nb2))) nb2 m r.safe):=HZ3.out.keep (iP (show nb2≠fb by omega));obtain⟨asv,cs,hform⟩:=HSV.out.form;subst hform
 have c5:(w3.setCell ⟨fb,3,none⟩ (.map (some nb2))).cell? ⟨fb,5,none⟩=some (.slice asv S.length cs):=by rw[bZ HR4.out];rfl
 obtain⟨K0,hK0⟩:∃K0:Int,K0=(if keep<0 then 0 else keep):=⟨_,rfl⟩;obtain⟨K,hK⟩:∃K:Nat,oZ r keep=K:=⟨_,rfl⟩;have hmax:(if keep<0 then 0 else keep)=K0:=hK0.symm
 have hmin:(if (S.length:Int)<K0 then (S.length:Int) else K0)=(K:Int):=by
  rw[<-hK,hK0,oZ]
  split<;>split at*<;>omega
 have HK:Hid (oZ r keep=K/\K<=r.wait.length):=⟨hK,by rw[<-hK];exact Nat.min_le_left _ _⟩;have HLEN:=aP hlen
 have hKl:(K:Int)<=(S.length:Int):=by have:=HK.out.2;omega
 have h00:(0:Int)<=(K:Int):=by omega
 have hKc:(K:Int)<=(cs:Int):=by
  rcases HSV.out.cap with ⟨e,e2⟩|⟨g,cap,e,e2⟩
  ·rw[e2] at hKl;simp at hKl;omega
  injection e with _ _ e3;omega
 clear HR3 HT3 HZ3 hK0 hK hlen
 go_wp2_with fail
 generalize w3.setCell ⟨fb,3,none⟩ (.map (some nb2))=w4 at*
 go_loopw [39] (fun i wr=>∃j:Nat,i=.int .i64 j/\j<=K/\aeD r d fb nb2 sb m (.slice asv S.length cs) w j wr) (fun i _=>K-(intOf i).toNat)
 case atStart=>exact⟨0,rfl,aN _,HR4.out,HZ4.out,HT4.out⟩
 case round=>
  obtain⟨j,rfl,hle,hmem⟩:=hrel;have HM:=aP hmem;clear hmem HR4 HT4 HZ4 c5 f3 c3 c4
  have i0:(0:Int)<=(j:Int):=by omega
  by_cases hlt:j<K
  ·have i1:(j:Int)<(K:Int):=by omega
   obtain⟨kk,hkk⟩:∃kk,S[j]?=some kk:=⟨S[j]'(by omega),by simp⟩;have HS2:Hid (uS (.slice asv S.length cs) S wr):=HSV.out.keep (fun k hk=>HM.out.turns.block k (HSV.out.lt k hk) (fun e=>hne.1 (by rw[hk,e])));obtain⟨g,cap,hge,q0,q1,q2⟩:=HS2.out.cell j kk hkk;injection hge with e1 e2 e3;subst e1 e3;obtain⟨kfn,kcap,kdata,kcuts⟩:=kk;simp only at q0 q1 q2;have HTJ:Hid (kH fb (iw r.wait j) (wr.alloc (.cells #[.func (.func kfn) #[] kcap,.string kdata,.bool kcuts] 120)) ⟨kfn,kcap,kdata,kcuts⟩):=(HTIE.out j _ hkk).1.keep (fun b hb=>(aZ wr _ b (ay ((HTIE.out j _ hkk).1.box_lt b hb) HM.out.turns.size)).trans (HM.out.turns.block b ((HTIE.out j _ hkk).1.box_lt b hb) ((HTIE.out j _ hkk).2 b hb)))
   have HBX:Hid (∀b,lM ⟨kfn,kcap,kdata,kcuts⟩ b->b≠nb2):=fun b hb=>by have:=(HTIE.out j _ hkk).1.box_lt b hb;omega
   have HRA:Hid (bC (wr.alloc (.cells #[.func (.func kfn) #[] kcap,.string kdata,.bool kcuts] 120)) fb d 1 nb2 sb (.slice (some ⟨g,0,none⟩) S.length cs)):=(aZ wr _ fb HM.out.row.lt).trans HM.out.row;have HMA:Hid (dw (wr.alloc (.cells #[.func (.func kfn) #[] kcap,.string kdata,.bool kcuts] 120)) nb2 (m+j) (jl r j)):=HM.out.map.keep (aZ wr _ nb2 HM.out.map.lt);have HTA:Hid (aQ (fun k=>k=fb) w (wr.alloc (.cells #[.func (.func kfn) #[] kcap,.string kdata,.bool kcuts] 120))):=HM.out.turns.trans (aQ.of_below (fun k=>k=fb) ((au _ _).alloc (ai _) _)) (fun i hi=>aG hi)
   have HJ:Hid (j<r.wait.length):=by show _<_;have:=HK.out.2;omega
   go_wp2_with fail
   rw[HTJ.out.enters,Oper.upon_enter];refine(HTJ.out.call kdata (jl r j) d 1 nb2 sb (m+j) _ HRA.out HMA.out (by have:=HJ.out;omega) (by omega) HBX.out (aA (HOK.out j HJ.out).name (by decide)) (aA (HOK.out j HJ.out).data (by decide)) (aA HTJ.out.part.2.1 (aA (HOK.out j HJ.out).data (by decide))) (aA (pQ _ _) (aA (HKP.out j (iM HJ.out)) (by decide)))).mono ?_;rintro e w5 ⟨rfl,hm5,ht5⟩
   have HST:Hid (aeD r d fb nb2 sb m (.slice (some ⟨g,0,none⟩) S.length cs) w (j+1) w5):=by
    refine⟨(ht5.block fb HRA.out.lt (by omega)).trans HRA.out,?_,HTA.out.trans ht5 (fun i hi=>aL (by omega))⟩;have e1:=HTJ.out.part.1;simp only at e1;rw[e1] at hm5;exact hm5
   clear hm5 ht5 HTJ HBX HRA HMA HTA q0 q1 q2
   go_wp2
   go_roundw
   case rel=>
    first
     |exact⟨j+1,by go_num,hlt,HST.out⟩
     | ((repeat apply Exists.intro);exact⟨⟨j+1,by go_num,hlt,HST.out⟩,rfl⟩)
   case measure=>simp[intOf];omega
  obtain rfl:j=K:=by omega
  by_cases hin:j<S.length
  ·obtain⟨kk,hkk⟩:∃kk,S[j]?=some kk:=⟨S[j]'hin,by simp⟩;have HS2:Hid (uS (.slice asv S.length cs) S wr):=HSV.out.keep (fun k hk=>HM.out.turns.block k (HSV.out.lt k hk) (fun e=>hne.1 (by rw[hk,e])));obtain⟨g,cap,hge,q0,q1,q2⟩:=HS2.out.cell j kk hkk;injection hge with e1 e2 e3;subst e1 e3;obtain⟨kfn,kcap,kdata,kcuts⟩:=kk;simp only at q0 q1 q2
   have i1:(j:Int)<(S.length:Int):=by omega
   have HJ:Hid (j<r.wait.length):=by show _<_;rw[<-HLEN.out];exact hin
   have HPT:Hid (kcuts=decide ((iw r.wait j).kind<=2)):=(HTIE.out j _ hkk).1.part.2.2.1
   by_cases hcut:0<=cut
   ·by_cases hkc:kcuts=true
    ·subst hkc
     have c5:wr.cell? ⟨fb,5,none⟩=some (.slice (some ⟨g,0,none⟩) S.length cs):=by rw[bZ HM.out.row];rfl
     have hkd:kdata=(iw r.wait j).data:=(HTIE.out j _ hkk).1.part.2.2.2 (by have:=HPT.out;simpa using this.symm);obtain⟨c2,hc2⟩:∃c2:Nat,c2=(if (kdata.size:Int)<cut then kdata.size else cut.toNat):=⟨_,rfl⟩
     have hmin2:(if (kdata.size:Int)<cut then (kdata.size:Int) else cut)=(c2:Int):=by rw[hc2];split<;>omega
     have hc3:(c2:Int)<=(kdata.size:Int):=by rw[<-hmin2];split<;>omega
     have hc4:(0:Int)<=(c2:Int):=by omega
     have HPO:Hid (vX (iw r.wait j) (kdata.extract 0 c2)=MS (iw r.wait j) cut):=by
      show _=_;rw[vX,aD (by have:=HPT.out;simpa using this.symm),MS,<-hkd]
      split
      ·rename_i hq
       rw[hc2,ax (by omega)]
      rename_i hq
      have:c2=kdata.size:=by rw[hc2];split<;>omega
      rw[this,kr,hkd]
     have HTJ:Hid (kH fb (iw r.wait j) (wr.alloc (.cells #[.func (.func kfn) #[] kcap,.string kdata,.bool true] 120)) ⟨kfn,kcap,kdata,true⟩):=(HTIE.out j _ hkk).1.keep (fun b hb=>(aZ wr _ b (ay ((HTIE.out j _ hkk).1.box_lt b hb) HM.out.turns.size)).trans (HM.out.turns.block b ((HTIE.out j _ hkk).1.box_lt b hb) ((HTIE.out j _ hkk).2 b hb)))
     have HBX:Hid (∀b,lM ⟨kfn,kcap,kdata,true⟩ b->b≠nb2):=fun b hb=>by have:=(HTIE.out j _ hkk).1.box_lt b hb;omega
     have HRA:Hid (bC (wr.alloc (.cells #[.func (.func kfn) #[] kcap,.string kdata,.bool true] 120)) fb d 1 nb2 sb (.slice (some ⟨g,0,none⟩) S.length cs)):=(aZ wr _ fb HM.out.row.lt).trans HM.out.row;have HMA:Hid (dw (wr.alloc (.cells #[.func (.func kfn) #[] kcap,.string kdata,.bool true] 120)) nb2 (m+j) (jl r j)):=HM.out.map.keep (aZ wr _ nb2 HM.out.map.lt);have HTA:Hid (aQ (fun k=>k=fb) w (wr.alloc (.cells #[.func (.func kfn) #[] kcap,.string kdata,.bool true] 120))):=HM.out.turns.trans (aQ.of_below (fun k=>k=fb) ((au _ _).alloc (ai _) _)) (fun i hi=>aG hi)
     have hxs:(kdata.extract 0 c2).size<=kdata.size:=by simp[aI];omega
     have HCA:Hid (∀wx:aj,wx.heap=(wr.alloc (.cells #[.func (.func kfn) #[] kcap,.string kdata,.bool true] 120)).heap->Calls Tryz.prog kfn (#[.string (kdata.extract 0 c2)]++kcap) wx fun e w'=>e=.returned (.tuple #[])/\dw w' nb2 (m+j+1) (fe (jl r j) (vX (iw r.wait j) (kdata.extract 0 c2)))/\aQ (fun k=>k=nb2) wx w'):=fun wx hx=>
      (HTJ.out.keep (w':=wx) (fun b _=>by rw[hx])).call (kdata.extract 0 c2) (jl r j) d 1 nb2 sb (m+j) _ (show bC wx fb d 1 nb2 sb (.slice (some ⟨g,0,none⟩) S.length cs) by unfold bC;rw[hx];exact HRA.out) (HMA.out.keep (by rw[hx])) (by have:=HJ.out;omega) (by omega) HBX.out (aA (HOK.out j HJ.out).name (by decide)) (aA (HOK.out j HJ.out).data (by decide)) (aA hxs (aA HTJ.out.part.2.1 (aA (HOK.out j HJ.out).data (by decide)))) (aA (pQ _ _) (aA (HKP.out j (iM HJ.out)) (by decide)))
     have HL6:Hid (iK r keep cut=fe (jl r j) (vX (iw r.wait j) (kdata.extract 0 c2))):=by
      show _=_;rw[HPO.out,iK,HK.out.1,aD ⟨HJ.out,by have:=HPT.out;simpa using this.symm,hcut⟩]
     have HEN:=aP HTJ.out.enters;have g0:(wr.alloc (.cells #[.func (.func kfn) #[] kcap,.string kdata,.bool true] 120)).cell? ⟨wr.heap.size,0,none⟩=some (.func (.func kfn) #[] kcap):=jq wr _ _ 0 _ rfl;have g1:(wr.alloc (.cells #[.func (.func kfn) #[] kcap,.string kdata,.bool true] 120)).cell? ⟨wr.heap.size,1,none⟩=some (.string kdata):=jq wr _ _ 1 _ rfl
     have hsz1:wr.heap.size<(wr.alloc (.cells #[.func (.func kfn) #[] kcap,.string kdata,.bool true] 120)).heap.size:=by simp
     have hnw:nb2<wr.heap.size:=HM.out.map.lt;clear hkd hc2
     go_wp2_with fail
     clear q0 q1 q2 c5;generalize wr.alloc (.cells #[.func (.func kfn) #[] kcap,.string kdata,.bool true] 120)=wA at*;have hen:∀(w:aj) (args:Array Value),(callFunc kfn args).run Tryz.prog w=.ok (.enter kfn args) w:=HEN.out
     go_region_held3 (fun w'=>w'.cell? ⟨wr.heap.size,0,none⟩=some (.func (.func kfn) #[] kcap)/\w'.cell? ⟨wr.heap.size,1,none⟩=some (.string kdata)) (first|exact⟨g0,g1⟩|exact hS5) (first|(refine(HCA.out wA.drew rfl).mono ?_;rintro e w6 ⟨rfl,hm5,ht5⟩;have hS5:w6.cell? ⟨wr.heap.size,0,none⟩=some (.func (.func kfn) #[] kcap)/\w6.cell? ⟨wr.heap.size,1,none⟩=some (.string kdata):=⟨(aB (w:=wA) (a:=⟨wr.heap.size,0,none⟩) (ht5.block wr.heap.size hsz1 (by omega))).trans g0,(aB (w:=wA) (a:=⟨wr.heap.size,1,none⟩) (ht5.block wr.heap.size hsz1 (by omega))).trans g1⟩))
     all_goals
      obtain⟨L,hL⟩:∃L,L=fe (jl r j) (vX (iw r.wait j) (kdata.extract 0 c2)):=⟨_,rfl⟩;rw[<-hL] at HL6 hm5;have HR6:Hid (bC w6 fb d 1 nb2 sb (.slice (some ⟨g,0,none⟩) S.length cs)):=(ht5.block fb HRA.out.lt (by omega)).trans HRA.out;have HM6:Hid (dw w6 nb2 (m+r.wait.length) L):=hm5.mono (by have:=HJ.out;omega);have HT6:Hid (aQ (fun k=>k=fb) w w6):=HTA.out.trans (G:=fun k=>k=nb2) (c:=w6) ⟨ht5.os,ht5.output,ht5.size,ht5.block⟩ (fun i hi=>aL (by omega));clear hm5 ht5 hS5 HCA HEN hen HTJ HRA HMA HTA g0 g1 hL HPO
      skip
      have HNE:Hid (nb2≠fb):=by show _≠_;omega
      have HKS:Hid (Calls Tryz.prog 61 #[.pointer (some ⟨fb,0,none⟩)] w6 fun e w'=>e=.returned (.tuple #[])/\bC w' fb d 1 nb2 w6.heap.size (.slice none 0 0)/\dw w' nb2 (m+r.wait.length) L/\dw w' w6.heap.size (m+r.wait.length) L/\aQ (fun k=>k=fb) w6 w'):=qL L d fb 1 nb2 sb _ _ w6 HR6.out HM6.out HNE.out
      go_wp2_with fail
      refine HKS.out.mono ?_;rintro e w7 ⟨rfl,hr7,hm7,hz7,ht7⟩;have HR7:=aP hr7;have HM7:=aP (aK hm7 hz7);have HT7:Hid (aQ (fun k=>k=fb) w w7):=HT6.out.trans ht7 (fun i hi=>aG hi);have HN7:=aP (aK HM6.out.lt HT6.out.size)
      have c6:w7.cell? ⟨fb,6,none⟩=some (.int .i64 d.fuse):=by rw[bZ HR7.out];rfl
      have f6:w7.frozen? ⟨fb,6,none⟩=false:=iG HR7.out;have HR8:=aP ((HR7.out.setFuse 0).setDown false)
      have c7:(w7.setCell ⟨fb,6,none⟩ (.int .i64 0)).cell? ⟨fb,7,none⟩=some (.bool d.down):=by rw[bZ (HR7.out.setFuse 0)];rfl
      have f7:(w7.setCell ⟨fb,6,none⟩ (.int .i64 0)).frozen? ⟨fb,7,none⟩=false:=iG (HR7.out.setFuse 0);clear hr7 hm7 hz7 ht7 HKS HR6 HM6 HT6 HR7
      go_wp2
      have HR2:=HR8;refine eY (f:=59) (args:=#[.pointer (some ⟨fb,0,none⟩)]) (by simp) (by simp[go_sem]) ?_;refine(unlock_deferred kg ⟨fb,0,none⟩ .returning _ ?_ ?_).mono ?_;(rw[bZ HR2.out];rfl);(exact iG HR2.out);rintro e u' w'' ⟨rfl,rfl,rfl⟩;refine⟨_,eG rfl _ _ _,rfl,nb2,w6.heap.size,HR8.out.setLock 0,?_,?_,((HT7.out.setCell ⟨fb,6,none⟩ _ (aG rfl)).setCell ⟨fb,7,none⟩ _ (aG rfl)).setCell ⟨fb,0,none⟩ _ (aG rfl),hws,HN7.out.2,?_⟩
      ·rw[HL6.out];exact HM7.out.1.keep (by rw[iP HNE.out,iP HNE.out,iP HNE.out])
      ·have hn:w6.heap.size≠fb:=by have:=HN7.out.2;omega
       rw[HL6.out];exact HM7.out.2.keep (by rw[iP hn,iP hn,iP hn])
      have:=HN7.out.1;omega
    have hkc2:kcuts=false:=by simpa using hkc
    subst hkc2;obtain⟨L,hL⟩:∃L,L=jl r j:=⟨_,rfl⟩;obtain⟨w6,hw6⟩:∃w6,w6=wr:=⟨_,rfl⟩
    have HL6:Hid (iK r keep cut=L):=by
     show _=_;rw[iK,ax ?_,HK.out.1,hL]
     exact fun h=>absurd h.2.1 (by rw[HK.out.1];have:=HPT.out;simpa using this)
    subst hw6;have HR6:Hid _:=HM.out.row
    have HM6:Hid (dw w6 nb2 (m+r.wait.length) L):=by rw[hL];exact HM.out.map.mono (by have:=HK.out.2;omega)
    have HT6:=aP HM.out.turns;have c5:=bC.c5 HR6.out;clear hL
    skip
    have HNE:Hid (nb2≠fb):=by show _≠_;omega
    have HKS:Hid (Calls Tryz.prog 61 #[.pointer (some ⟨fb,0,none⟩)] w6 fun e w'=>e=.returned (.tuple #[])/\bC w' fb d 1 nb2 w6.heap.size (.slice none 0 0)/\dw w' nb2 (m+r.wait.length) L/\dw w' w6.heap.size (m+r.wait.length) L/\aQ (fun k=>k=fb) w6 w'):=qL L d fb 1 nb2 sb _ _ w6 HR6.out HM6.out HNE.out
    go_wp2_with fail
    refine HKS.out.mono ?_;rintro e w7 ⟨rfl,hr7,hm7,hz7,ht7⟩;have HR7:=aP hr7;have HM7:=aP (aK hm7 hz7);have HT7:Hid (aQ (fun k=>k=fb) w w7):=HT6.out.trans ht7 (fun i hi=>aG hi);have HN7:=aP (aK HM6.out.lt HT6.out.size)
    have c6:w7.cell? ⟨fb,6,none⟩=some (.int .i64 d.fuse):=by rw[bZ HR7.out];rfl
    have f6:w7.frozen? ⟨fb,6,none⟩=false:=iG HR7.out;have HR8:=aP ((HR7.out.setFuse 0).setDown false)
    have c7:(w7.setCell ⟨fb,6,none⟩ (.int .i64 0)).cell? ⟨fb,7,none⟩=some (.bool d.down):=by rw[bZ (HR7.out.setFuse 0)];rfl
    have f7:(w7.setCell ⟨fb,6,none⟩ (.int .i64 0)).frozen? ⟨fb,7,none⟩=false:=iG (HR7.out.setFuse 0);clear hr7 hm7 hz7 ht7 HKS HR6 HM6 HT6 HR7
    go_wp2
    have HR2:=HR8;refine eY (f:=59) (args:=#[.pointer (some ⟨fb,0,none⟩)]) (by simp) (by simp[go_sem]) ?_;refine(unlock_deferred kg ⟨fb,0,none⟩ .returning _ ?_ ?_).mono ?_;(rw[bZ HR2.out];rfl);(exact iG HR2.out);rintro e u' w'' ⟨rfl,rfl,rfl⟩;refine⟨_,eG rfl _ _ _,rfl,nb2,w6.heap.size,HR8.out.setLock 0,?_,?_,((HT7.out.setCell ⟨fb,6,none⟩ _ (aG rfl)).setCell ⟨fb,7,none⟩ _ (aG rfl)).setCell ⟨fb,0,none⟩ _ (aG rfl),hws,HN7.out.2,?_⟩
    ·rw[HL6.out];exact HM7.out.1.keep (by rw[iP HNE.out,iP HNE.out,iP HNE.out])
    ·have hn:w6.heap.size≠fb:=by have:=HN7.out.2;omega
     rw[HL6.out];exact HM7.out.2.keep (by rw[iP hn,iP hn,iP hn])
    have:=HN7.out.1;omega
   have hcut2:cut<0:=by omega
   obtain⟨L,hL⟩:∃L,L=jl r j:=⟨_,rfl⟩;obtain⟨w6,hw6⟩:∃w6,w6=wr:=⟨_,rfl⟩
   have HL6:Hid (iK r keep cut=L):=by
    show _=_;rw[iK,ax ?_,HK.out.1,hL]
    exact fun h=>hcut h.2.2
   subst hw6;have HR6:Hid _:=HM.out.row
   have HM6:Hid (dw w6 nb2 (m+r.wait.length) L):=by rw[hL];exact HM.out.map.mono (by have:=HK.out.2;omega)
   have HT6:=aP HM.out.turns;have c5:=bC.c5 HR6.out;clear hL
   skip
   have HNE:Hid (nb2≠fb):=by show _≠_;omega
   have HKS:Hid (Calls Tryz.prog 61 #[.pointer (some ⟨fb,0,none⟩)] w6 fun e w'=>e=.returned (.tuple #[])/\bC w' fb d 1 nb2 w6.heap.size (.slice none 0 0)/\dw w' nb2 (m+r.wait.length) L/\dw w' w6.heap.size (m+r.wait.length) L/\aQ (fun k=>k=fb) w6 w'):=qL L d fb 1 nb2 sb _ _ w6 HR6.out HM6.out HNE.out
   go_wp2_with fail
   refine HKS.out.mono ?_;rintro e w7 ⟨rfl,hr7,hm7,hz7,ht7⟩;have HR7:=aP hr7;have HM7:=aP (aK hm7 hz7);have HT7:Hid (aQ (fun k=>k=fb) w w7):=HT6.out.trans ht7 (fun i hi=>aG hi);have HN7:=aP (aK HM6.out.lt HT6.out.size)
   have c6:w7.cell? ⟨fb,6,none⟩=some (.int .i64 d.fuse):=by rw[bZ HR7.out];rfl
   have f6:w7.frozen? ⟨fb,6,none⟩=false:=iG HR7.out;have HR8:=aP ((HR7.out.setFuse 0).setDown false)
   have c7:(w7.setCell ⟨fb,6,none⟩ (.int .i64 0)).cell? ⟨fb,7,none⟩=some (.bool d.down):=by rw[bZ (HR7.out.setFuse 0)];rfl
   have f7:(w7.setCell ⟨fb,6,none⟩ (.int .i64 0)).frozen? ⟨fb,7,none⟩=false:=iG (HR7.out.setFuse 0);clear hr7 hm7 hz7 ht7 HKS HR6 HM6 HT6 HR7
   go_wp2
   have HR2:=HR8;refine eY (f:=59) (args:=#[.pointer (some ⟨fb,0,none⟩)]) (by simp) (by simp[go_sem]) ?_;refine(unlock_deferred kg ⟨fb,0,none⟩ .returning _ ?_ ?_).mono ?_;(rw[bZ HR2.out];rfl);(exact iG HR2.out);rintro e u' w'' ⟨rfl,rfl,rfl⟩;refine⟨_,eG rfl _ _ _,rfl,nb2,w6.heap.size,HR8.out.setLock 0,?_,?_,((HT7.out.setCell ⟨fb,6,none⟩ _ (aG rfl)).setCell ⟨fb,7,none⟩ _ (aG rfl)).setCell ⟨fb,0,none⟩ _ (aG rfl),hws,HN7.out.2,?_⟩
   ·rw[HL6.out];exact HM7.out.1.keep (by rw[iP HNE.out,iP HNE.out,iP HNE.out])
   ·have hn:w6.heap.size≠fb:=by have:=HN7.out.2;omega
    rw[HL6.out];exact HM7.out.2.keep (by rw[iP hn,iP hn,iP hn])
   have:=HN7.out.1;omega
  have i1:¬(j:Int)<(S.length:Int):=by omega
  by_cases hcut:0<=cut
  ·skip
   obtain⟨L,hL⟩:∃L,L=jl r j:=⟨_,rfl⟩;obtain⟨w6,hw6⟩:∃w6,w6=wr:=⟨_,rfl⟩
   have HL6:Hid (iK r keep cut=L):=by
    show _=_;rw[iK,ax ?_,HK.out.1,hL]
    exact fun h=>by have:=h.1;rw[HK.out.1,<-HLEN.out] at this;omega
   subst hw6;have HR6:Hid _:=HM.out.row
   have HM6:Hid (dw w6 nb2 (m+r.wait.length) L):=by rw[hL];exact HM.out.map.mono (by have:=HK.out.2;omega)
   have HT6:=aP HM.out.turns;have c5:=bC.c5 HR6.out;clear hL
   skip
   have HNE:Hid (nb2≠fb):=by show _≠_;omega
   have HKS:Hid (Calls Tryz.prog 61 #[.pointer (some ⟨fb,0,none⟩)] w6 fun e w'=>e=.returned (.tuple #[])/\bC w' fb d 1 nb2 w6.heap.size (.slice none 0 0)/\dw w' nb2 (m+r.wait.length) L/\dw w' w6.heap.size (m+r.wait.length) L/\aQ (fun k=>k=fb) w6 w'):=qL L d fb 1 nb2 sb _ _ w6 HR6.out HM6.out HNE.out
   go_wp2_with fail
   refine HKS.out.mono ?_;rintro e w7 ⟨rfl,hr7,hm7,hz7,ht7⟩;have HR7:=aP hr7;have HM7:=aP (aK hm7 hz7);have HT7:Hid (aQ (fun k=>k=fb) w w7):=HT6.out.trans ht7 (fun i hi=>aG hi);have HN7:=aP (aK HM6.out.lt HT6.out.size)
   have c6:w7.cell? ⟨fb,6,none⟩=some (.int .i64 d.fuse):=by rw[bZ HR7.out];rfl
   have f6:w7.frozen? ⟨fb,6,none⟩=false:=iG HR7.out;have HR8:=aP ((HR7.out.setFuse 0).setDown false)
   have c7:(w7.setCell ⟨fb,6,none⟩ (.int .i64 0)).cell? ⟨fb,7,none⟩=some (.bool d.down):=by rw[bZ (HR7.out.setFuse 0)];rfl
   have f7:(w7.setCell ⟨fb,6,none⟩ (.int .i64 0)).frozen? ⟨fb,7,none⟩=false:=iG (HR7.out.setFuse 0);clear hr7 hm7 hz7 ht7 HKS HR6 HM6 HT6 HR7
   go_wp2
   have HR2:=HR8;refine eY (f:=59) (args:=#[.pointer (some ⟨fb,0,none⟩)]) (by simp) (by simp[go_sem]) ?_;refine(unlock_deferred kg ⟨fb,0,none⟩ .returning _ ?_ ?_).mono ?_;(rw[bZ HR2.out];rfl);(exact iG HR2.out);rintro e u' w'' ⟨rfl,rfl,rfl⟩;refine⟨_,eG rfl _ _ _,rfl,nb2,w6.heap.size,HR8.out.setLock 0,?_,?_,((HT7.out.setCell ⟨fb,6,none⟩ _ (aG rfl)).setCell ⟨fb,7,none⟩ _ (aG rfl)).setCell ⟨fb,0,none⟩ _ (aG rfl),hws,HN7.out.2,?_⟩
   ·rw[HL6.out];exact HM7.out.1.keep (by rw[iP HNE.out,iP HNE.out,iP HNE.out])
   ·have hn:w6.heap.size≠fb:=by have:=HN7.out.2;omega
    rw[HL6.out];exact HM7.out.2.keep (by rw[iP hn,iP hn,iP hn])
   have:=HN7.out.1;omega
  have hcut2:cut<0:=by omega
  obtain⟨L,hL⟩:∃L,L=jl r j:=⟨_,rfl⟩;obtain⟨w6,hw6⟩:∃w6,w6=wr:=⟨_,rfl⟩
  have HL6:Hid (iK r keep cut=L):=by
   show _=_;rw[iK,ax ?_,HK.out.1,hL]
   exact fun h=>by have:=h.1;rw[HK.out.1,<-HLEN.out] at this;omega
  subst hw6;have HR6:Hid _:=HM.out.row
  have HM6:Hid (dw w6 nb2 (m+r.wait.length) L):=by rw[hL];exact HM.out.map.mono (by have:=HK.out.2;omega)
  have HT6:=aP HM.out.turns;have c5:=bC.c5 HR6.out;clear hL
  skip
  have HNE:Hid (nb2≠fb):=by show _≠_;omega
  have HKS:Hid (Calls Tryz.prog 61 #[.pointer (some ⟨fb,0,none⟩)] w6 fun e w'=>e=.returned (.tuple #[])/\bC w' fb d 1 nb2 w6.heap.size (.slice none 0 0)/\dw w' nb2 (m+r.wait.length) L/\dw w' w6.heap.size (m+r.wait.length) L/\aQ (fun k=>k=fb) w6 w'):=qL L d fb 1 nb2 sb _ _ w6 HR6.out HM6.out HNE.out
  go_wp2_with fail
  refine HKS.out.mono ?_;rintro e w7 ⟨rfl,hr7,hm7,hz7,ht7⟩;have HR7:=aP hr7;have HM7:=aP (aK hm7 hz7);have HT7:Hid (aQ (fun k=>k=fb) w w7):=HT6.out.trans ht7 (fun i hi=>aG hi);have HN7:=aP (aK HM6.out.lt HT6.out.size)
  have c6:w7.cell? ⟨fb,6,none⟩=some (.int .i64 d.fuse):=by rw[bZ HR7.out];rfl
  have f6:w7.frozen? ⟨fb,6,none⟩=false:=iG HR7.out;have HR8:=aP ((HR7.out.setFuse 0).setDown false)
  have c7:(w7.setCell ⟨fb,6,none⟩ (.int .i64 0)).cell? ⟨fb,7,none⟩=some (.bool d.down):=by rw[bZ (HR7.out.setFuse 0)];rfl
  have f7:(w7.setCell ⟨fb,6,none⟩ (.int .i64 0)).frozen? ⟨fb,7,none⟩=false:=iG (HR7.out.setFuse 0);clear hr7 hm7 hz7 ht7 HKS HR6 HM6 HT6 HR7
  go_wp2
  have HR2:=HR8;refine eY (f:=59) (args:=#[.pointer (some ⟨fb,0,none⟩)]) (by simp) (by simp[go_sem]) ?_;refine(unlock_deferred kg ⟨fb,0,none⟩ .returning _ ?_ ?_).mono ?_;(rw[bZ HR2.out];rfl);(exact iG HR2.out);rintro e u' w'' ⟨rfl,rfl,rfl⟩;refine⟨_,eG rfl _ _ _,rfl,nb2,w6.heap.size,HR8.out.setLock 0,?_,?_,((HT7.out.setCell ⟨fb,6,none⟩ _ (aG rfl)).setCell ⟨fb,7,none⟩ _ (aG rfl)).setCell ⟨fb,0,none⟩ _ (aG rfl),hws,HN7.out.2,?_⟩
  ·rw[HL6.out];exact HM7.out.1.keep (by rw[iP HNE.out,iP HNE.out,iP HNE.out])
  ·have hn:w6.heap.size≠fb:=by have:=HN7.out.2;omega
   rw[HL6.out];exact HM7.out.2.keep (by rw[iP hn,iP hn,iP hn])
  have:=HN7.out.1;omega
