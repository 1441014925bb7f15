import Derived.Test.YthhbpebihgjpjaaGreatDoorZ24
import Derived.Laws.EntriesVeiled
namespace Go.Proofs.YthhbpebihgjpjaaGreatDoor
set_option maxRecDepth 1000000
set_option maxHeartbeats 20000000
set_option linter.all false
section
open Go.RowKit Go.MuLone Go.Maps
theorem WU(l:List jB):∀(j:Nat) (x:jB),l[j]?=some x->(sj l)[j*3]?=some (.func (.func x.fn) #[] x.cap)/\(sj l)[j*3+1]?=some (.string x.data)/\(sj l)[j*3+2]?=some (.bool x.cuts):=by
 induction l with
 |nil=>intro j x h;simp at h
 |cons y l ih=>
  intro j x h
  cases j with
  |zero=>simp at h;subst h;exact⟨rfl,rfl,rfl⟩
  |succ j=>
   have h2:=ih j x (by simpa using h)
   have e:∀r,(sj (y::l))[(j+1)*3+r]?=(sj l)[j*3+r]?:=fun r=>by
    have:(j+1)*3+r=(j*3+r)+3:=aJ
    rw[this];rfl
   exact⟨(e 0).trans h2.1,(e 1).trans h2.2.1,(e 2).trans h2.2.2⟩
variable {v:Value}{l:List jB}{w:ak}
theorem uU.cell(h:uU v l w)(j:Nat)(x:jB)(hj:l[j]?=some x):∃g cap,v=.slice (some ⟨g,0,none⟩) l.length cap/\w.cell? ⟨g,j*3,none⟩=some (.func (.func x.fn) #[] x.cap)/\w.cell? ⟨g,j*3+1,none⟩=some (.string x.data)/\w.cell? ⟨g,j*3+2,none⟩=some (.bool x.cuts):=by
 have hlt:j<l.length:=(aN.1 hj).1;obtain⟨_,⟨rfl,h0⟩|⟨g,cap,cur,rfl,_,hh,_,_,_,htk⟩⟩:=h.own
 ·omega
 have e:∀i u,i<l.length*3->(sj l)[i]?=some u->w.cell? ⟨g,i,none⟩=some u:=fun i u hi hu=>by
  rw[aj _ _ _ _ _ _ hh,<-cZ];rw[<-htk,xQ,aH hi] at hu;exact hu
 have h2:=WU l j x hj;exact⟨g,cap,rfl,e _ _ aJ h2.1,e _ _ aJ h2.2.1,e _ _ aJ h2.2.2⟩
theorem uU.cap(h:uU v l w):(v=.slice none 0 0/\l=[])\/∃g cap,v=.slice (some ⟨g,0,none⟩) l.length cap/\l.length<=cap:=by
 obtain⟨_,⟨rfl,h0⟩|⟨g,cap,cur,rfl,_,hh,h1,_⟩⟩:=h.own
 ·exact aK ⟨rfl,mM h0⟩
 exact aP ⟨g,cap,rfl,h1⟩
variable {fb:Nat}
theorem kL.part{o:lG}{k:jB}(h:kL fb o w k):wh o k.data=o/\k.data.size<=o.data.size/\k.cuts=decide (o.kind<=2)/\(o.kind<=2->k.data=o.data):=by
 obtain⟨bf,bn,h1,h2,h3⟩:=h
 rcases h3 with ⟨hk,rfl⟩|⟨hk,rfl⟩|⟨hk,bt,h4,rfl⟩|⟨hk,rfl⟩
 ·exact⟨by rw[wh,aH aJ],ai _,by simp[hk],fun _=>rfl⟩
 ·exact⟨by rw[wh,aH aJ],ai _,by simp[hk],fun _=>rfl⟩
 ·exact⟨by rw[wh,aA aJ],aS _,by simp[hk],fun h=>aJ⟩
 exact⟨by rw[wh,aA aJ],aS _,by simp[hk],fun h=>aJ⟩
theorem bH.c5{d:dX}{lk:Int}{nb sb:Nat}{sv:Value}(h:bH w fb d lk nb sb sv):w.cell? ⟨fb,5,none⟩=some sv:=by rw[aj _ _ _ _ _ _ h];rfl
def Yk(L:List bP)(M:Nat)(d:dX)(fb:Nat)(w:ak)(e:Ending)(w':ak):Prop:=
 e=.returned (.tuple #[])/\∃nb sb,bH w' fb {d with fuse:=0,down:=false} 0 nb sb (.slice none 0 0)/\dF w' nb M L/\dF w' sb M L/\aW (fun k=>k=fb) w w'/\w.heap.size<=nb/\w.heap.size<=sb/\nb≠sb
structure aeH(r:bY)(d:dX)(fb nb sb m:Nat)(sv:Value)(w:ak)(j:Nat)(wr:ak):Prop where
 row:bH wr fb d 1 nb sb sv
 map:dF wr nb (m+j) (jr r j)
 turns:aW (fun k=>k=fb) w wr
theorem Nl(keep cut:Int)(d:dX)(fb:Nat)(nb sb m:Nat)(sv:Value)(S:List jB)(r:bY)(w:ak)
  (h:bH w fb d 0 nb sb sv) (hm:dF w sb m r.safe) (hS:uU sv S w) (hne:sv.ownBlock≠some fb/\sb≠fb) (hlen:S.length=r.wait.length) (hsl:S.length<=1099511627776)
  (htie:∀j k,S[j]?=some k->kL fb (iD r.wait j) w k/\∀b,lT k b->b≠fb) (hok:∀j,j<r.wait.length->JK (jr r j) (iD r.wait j)) (hkept:∀j,j<=r.wait.length->totalBytes (jr r j)<=65536) (hroom:m+r.wait.length<maxLen):
  Calls Tryz.prog 40 #[.pointer (some ⟨fb,0,none⟩),.int .i64 keep,.int .i64 cut] w (Yk (iP r keep cut) (m+r.wait.length) d fb w):=by
 have h0:w.cell? ⟨fb,0,none⟩=some (.int .i32 0):=by rw[aj _ _ _ _ _ _ h];rfl
 have f0:w.frozen? ⟨fb,0,none⟩=false:=aD _ _ _ _ _ h;have HR1:=aV (h.setLock 1);have HT1:Hid (aW (fun k=>k=fb) w (w.setCell ⟨fb,0,none⟩ (.int .i32 1))):=(aW.refl _ w).setCell ⟨fb,0,none⟩ _ (aK rfl);have HM1:Hid (dF (w.setCell ⟨fb,0,none⟩ (.int .i32 1)) sb m r.safe):=hm.keep (au _ _ _ _ hne.2);have HSV:=aV hS;have HTIE:=aV htie;have HOK:=aV hok;have HKP:=aV hkept;have hfb:fb<w.heap.size:=h.lt;clear h hm hS htie hok hkept
 go_enter_defers Tryz.func40,Tryz.ntmps40
 go_wp2_with (go_at_call 58;refine(lock_free ku ⟨fb,0,none⟩ _ h0 f0).mono ?_;rintro e w1 ⟨rfl,rfl⟩;refine dO ?_)
 clear h0 f0;generalize w.setCell ⟨fb,0,none⟩ (.int .i32 1)=w2 at*
 have c4:w2.cell? ⟨fb,4,none⟩=some (.map (some sb)):=by rw[aj _ _ _ _ _ _ HR1.out];rfl
 obtain⟨es,clock,hb2,hz2⟩:=HM1.out.cloned;have HCL:=aV (NV sb es clock w2 hb2);have HR3:Hid (bH (w2.alloc (.map es clock)) fb d 1 nb sb sv):=(bC w2 _ fb HR1.out.lt).trans HR1.out;have HT3:Hid (aW (fun k=>k=fb) w (w2.alloc (.map es clock))):=HT1.out.trans (aW.of_below (fun k=>k=fb) ((ay _ _).alloc (ai _) _)) (fun i hi=>aK hi);have HZ3:=aV hz2;have hws:w.heap.size<=w2.heap.size:=HT1.out.size;clear hb2 hz2 HR1 HM1 HT1;unfold Hid
 go_wp2_with fail
 refine HCL.out.mono ?_;rintro e w3 ⟨rfl,rfl⟩;clear HCL;generalize w2.heap.size=nb2 at*;generalize w2.alloc (.map es clock)=w3 at*;have f3:w3.frozen? ⟨fb,3,none⟩=false:=aD _ _ _ _ _ HR3.out
 have c3:w3.cell? ⟨fb,3,none⟩=some (.map (some nb)):=by rw[aj _ _ _ _ _ _ HR3.out];rfl
 have HR4:=aV (HR3.out.setNow nb2);have HT4:Hid (aW (fun k=>k=fb) w (w3.setCell ⟨fb,3,none⟩ (.map (some nb2)))):=HT3.out.setCell ⟨fb,3,none⟩ _ (aK rfl);have HZ4:Hid (dF (w3.setCell ⟨fb,3,none⟩ (.map (some nb2))) nb2 m r.safe):=HZ3.out.keep (au _ _ _ _ (show nb2≠fb by omega));obtain⟨asv,cs,hform⟩:=HSV.out.form;subst hform
 have c5:(w3.setCell ⟨fb,3,none⟩ (.map (some nb2))).cell? ⟨fb,5,none⟩=some (.slice asv S.length cs):=by rw[aj _ _ _ _ _ _ HR4.out];rfl
 obtain⟨K0,hK0⟩:∃K0:Int,K0=(if keep<0 then 0 else keep):=⟨_,rfl⟩;obtain⟨K,hK⟩:∃K:Nat,pu r keep=K:=⟨_,rfl⟩;have hmax:(if keep<0 then 0 else keep)=K0:=hK0.symm
 have hmin:(if (S.length:Int)<K0 then (S.length:Int) else K0)=(K:Int):=by
  rw[<-hK,hK0,pu]
  split<;>split at*<;>omega
 have HK:Hid (pu r keep=K/\K<=r.wait.length):=⟨hK,by rw[<-hK];exact Nat.min_le_left _ _⟩;have HLEN:=aV hlen
 have hKl:(K:Int)<=(S.length:Int):=by have:=HK.out.2;omega
 have h00:(0:Int)<=(K:Int):=aJ
 have hKc:(K:Int)<=(cs:Int):=by
  rcases HSV.out.cap with ⟨e,e2⟩|⟨g,cap,e,e2⟩
  ·rw[e2] at hKl;simp at hKl;omega
  injection e with _ _ e3;omega
 clear HR3 HT3 HZ3 hK0 hK hlen
 go_wp2_with fail
 generalize w3.setCell ⟨fb,3,none⟩ (.map (some nb2))=w4 at*
 go_loopw [39] (fun i wr=>∃j:Nat,i=.int .i64 j/\j<=K/\aeH r d fb nb2 sb m (.slice asv S.length cs) w j wr) (fun i _=>K-(intOf i).toNat)
 case atStart=>exact⟨0,rfl,aS _,HR4.out,HZ4.out,HT4.out⟩
 case round=>
  obtain⟨j,rfl,hle,hmem⟩:=hrel;have HM:=aV hmem;clear hmem HR4 HT4 HZ4 c5 f3 c3 c4
  have i0:(0:Int)<=(j:Int):=aJ
  by_cases hlt:j<K
  ·have i1:(j:Int)<(K:Int):=aJ
   obtain⟨kk,hkk⟩:∃kk,S[j]?=some kk:=⟨S[j]' aJ,eB⟩;have HS2:Hid (uU (.slice asv S.length cs) S wr):=HSV.out.keep (fun k hk=>HM.out.turns.block k (HSV.out.lt k hk) (fun e=>hne.1 (by rw[hk,e])));obtain⟨g,cap,hge,q0,q1,q2⟩:=HS2.out.cell j kk hkk;injection hge with e1 e2 e3;subst e1 e3;obtain⟨kfn,kcap,kdata,kcuts⟩:=kk;simp only at q0 q1 q2;have HTJ:Hid (kL fb (iD r.wait j) (wr.alloc (.cells #[.func (.func kfn) #[] kcap,.string kdata,.bool kcuts] 120)) ⟨kfn,kcap,kdata,kcuts⟩):=(HTIE.out j _ hkk).1.keep (fun b hb=>(bC wr _ b (aB ((HTIE.out j _ hkk).1.box_lt b hb) HM.out.turns.size)).trans (HM.out.turns.block b ((HTIE.out j _ hkk).1.box_lt b hb) ((HTIE.out j _ hkk).2 b hb)))
   have HBX:Hid (∀b,lT ⟨kfn,kcap,kdata,kcuts⟩ b->b≠nb2):=fun b hb=>by have:=(HTIE.out j _ hkk).1.box_lt b hb;omega
   have HRA:Hid (bH (wr.alloc (.cells #[.func (.func kfn) #[] kcap,.string kdata,.bool kcuts] 120)) fb d 1 nb2 sb (.slice (some ⟨g,0,none⟩) S.length cs)):=(bC wr _ fb HM.out.row.lt).trans HM.out.row;have HMA:Hid (dF (wr.alloc (.cells #[.func (.func kfn) #[] kcap,.string kdata,.bool kcuts] 120)) nb2 (m+j) (jr r j)):=HM.out.map.keep (bC wr _ nb2 HM.out.map.lt);have HTA:Hid (aW (fun k=>k=fb) w (wr.alloc (.cells #[.func (.func kfn) #[] kcap,.string kdata,.bool kcuts] 120))):=HM.out.turns.trans (aW.of_below (fun k=>k=fb) ((ay _ _).alloc (ai _) _)) (fun i hi=>aK hi)
   have HJ:Hid (j<r.wait.length):=by show _<_;have:=HK.out.2;omega
   go_wp2_with fail
   rw[HTJ.out.enters,Oper.upon_enter];refine(HTJ.out.call kdata (jr r j) d 1 nb2 sb (m+j) _ HRA.out HMA.out (by have:=HJ.out;omega) aJ HBX.out (aC (HOK.out j HJ.out).name bS) (aC (HOK.out j HJ.out).data bS) (aC HTJ.out.part.2.1 (aC (HOK.out j HJ.out).data bS)) (aC (pV _ _) (aC (HKP.out j (iR HJ.out)) bS))).mono ?_;rintro e w5 ⟨rfl,hm5,ht5⟩
   have HST:Hid (aeH r d fb nb2 sb m (.slice (some ⟨g,0,none⟩) S.length cs) w (j+1) w5):=by
    refine⟨(ht5.block fb HRA.out.lt aJ).trans HRA.out,?_,HTA.out.trans ht5 (fun i hi=>aP aJ)⟩;have e1:=HTJ.out.part.1;simp only at e1;rw[e1] at hm5;exact hm5
   clear hm5 ht5 HTJ HBX HRA HMA HTA q0 q1 q2
   go_wp2
   go_roundw
   case rel=>
    first
     |exact⟨j+1,oW,hlt,HST.out⟩
     | ((repeat apply Exists.intro);exact⟨⟨j+1,oW,hlt,HST.out⟩,rfl⟩)
   case measure=>simp[intOf];omega
  obtain rfl:j=K:=aJ
  by_cases hin:j<S.length
  ·obtain⟨kk,hkk⟩:∃kk,S[j]?=some kk:=⟨S[j]'hin,eB⟩;have HS2:Hid (uU (.slice asv S.length cs) S wr):=HSV.out.keep (fun k hk=>HM.out.turns.block k (HSV.out.lt k hk) (fun e=>hne.1 (by rw[hk,e])));obtain⟨g,cap,hge,q0,q1,q2⟩:=HS2.out.cell j kk hkk;injection hge with e1 e2 e3;subst e1 e3;obtain⟨kfn,kcap,kdata,kcuts⟩:=kk;simp only at q0 q1 q2
   have i1:(j:Int)<(S.length:Int):=aJ
   have HJ:Hid (j<r.wait.length):=by show _<_;rw[<-HLEN.out];exact hin
   have HPT:Hid (kcuts=decide ((iD r.wait j).kind<=2)):=(HTIE.out j _ hkk).1.part.2.2.1
   by_cases hcut:0<=cut
   ·by_cases hkc:kcuts=true
    ·subst hkc
     have c5:wr.cell? ⟨fb,5,none⟩=some (.slice (some ⟨g,0,none⟩) S.length cs):=by rw[aj _ _ _ _ _ _ HM.out.row];rfl
     have hkd:kdata=(iD r.wait j).data:=(HTIE.out j _ hkk).1.part.2.2.2 (by have:=HPT.out;simpa using this.symm);obtain⟨c2,hc2⟩:∃c2:Nat,c2=(if (kdata.size:Int)<cut then kdata.size else cut.toNat):=⟨_,rfl⟩
     have hmin2:(if (kdata.size:Int)<cut then (kdata.size:Int) else cut)=(c2:Int):=by rw[hc2];split<;>omega
     have hc3:(c2:Int)<=(kdata.size:Int):=by rw[<-hmin2];split<;>omega
     have hc4:(0:Int)<=(c2:Int):=aJ
     have HPO:Hid (wh (iD r.wait j) (kdata.extract 0 c2)=MV (iD r.wait j) cut):=by
      show _=_;rw[wh,aH (by have:=HPT.out;simpa using this.symm),MV,<-hkd]
      split
      ·rename_i hq
       rw[hc2,aA aJ]
      rename_i hq
      have:c2=kdata.size:=by rw[hc2];split<;>omega
      rw[this,kC,hkd]
     have HTJ:Hid (kL fb (iD r.wait j) (wr.alloc (.cells #[.func (.func kfn) #[] kcap,.string kdata,.bool true] 120)) ⟨kfn,kcap,kdata,true⟩):=(HTIE.out j _ hkk).1.keep (fun b hb=>(bC wr _ b (aB ((HTIE.out j _ hkk).1.box_lt b hb) HM.out.turns.size)).trans (HM.out.turns.block b ((HTIE.out j _ hkk).1.box_lt b hb) ((HTIE.out j _ hkk).2 b hb)))
     have HBX:Hid (∀b,lT ⟨kfn,kcap,kdata,true⟩ b->b≠nb2):=fun b hb=>by have:=(HTIE.out j _ hkk).1.box_lt b hb;omega
     have HRA:Hid (bH (wr.alloc (.cells #[.func (.func kfn) #[] kcap,.string kdata,.bool true] 120)) fb d 1 nb2 sb (.slice (some ⟨g,0,none⟩) S.length cs)):=(bC wr _ fb HM.out.row.lt).trans HM.out.row;have HMA:Hid (dF (wr.alloc (.cells #[.func (.func kfn) #[] kcap,.string kdata,.bool true] 120)) nb2 (m+j) (jr r j)):=HM.out.map.keep (bC wr _ nb2 HM.out.map.lt);have HTA:Hid (aW (fun k=>k=fb) w (wr.alloc (.cells #[.func (.func kfn) #[] kcap,.string kdata,.bool true] 120))):=HM.out.turns.trans (aW.of_below (fun k=>k=fb) ((ay _ _).alloc (ai _) _)) (fun i hi=>aK hi)
     have hxs:(kdata.extract 0 c2).size<=kdata.size:=by simp[aM];omega
     have HCA:Hid (∀wx:ak,wx.heap=(wr.alloc (.cells #[.func (.func kfn) #[] kcap,.string kdata,.bool true] 120)).heap->Calls Tryz.prog kfn (#[.string (kdata.extract 0 c2)]++kcap) wx fun e w'=>e=.returned (.tuple #[])/\dF w' nb2 (m+j+1) (fC (jr r j) (wh (iD r.wait j) (kdata.extract 0 c2)))/\aW (fun k=>k=nb2) wx w'):=fun wx hx=>
      (HTJ.out.keep (w':=wx) (fun b _=>by rw[hx])).call (kdata.extract 0 c2) (jr r j) d 1 nb2 sb (m+j) _ (show bH wx fb d 1 nb2 sb (.slice (some ⟨g,0,none⟩) S.length cs) by unfold bH;rw[hx];exact HRA.out) (HMA.out.keep (by rw[hx])) (by have:=HJ.out;omega) aJ HBX.out (aC (HOK.out j HJ.out).name bS) (aC (HOK.out j HJ.out).data bS) (aC hxs (aC HTJ.out.part.2.1 (aC (HOK.out j HJ.out).data bS))) (aC (pV _ _) (aC (HKP.out j (iR HJ.out)) bS))
     have HL6:Hid (iP r keep cut=fC (jr r j) (wh (iD r.wait j) (kdata.extract 0 c2))):=by
      show _=_;rw[HPO.out,iP,HK.out.1,aH ⟨HJ.out,by have:=HPT.out;simpa using this.symm,hcut⟩]
     have HEN:=aV HTJ.out.enters;have g0:(wr.alloc (.cells #[.func (.func kfn) #[] kcap,.string kdata,.bool true] 120)).cell? ⟨wr.heap.size,0,none⟩=some (.func (.func kfn) #[] kcap):=jy wr _ _ 0 _ rfl;have g1:(wr.alloc (.cells #[.func (.func kfn) #[] kcap,.string kdata,.bool true] 120)).cell? ⟨wr.heap.size,1,none⟩=some (.string kdata):=jy wr _ _ 1 _ rfl
     have hsz1:wr.heap.size<(wr.alloc (.cells #[.func (.func kfn) #[] kcap,.string kdata,.bool true] 120)).heap.size:=eB
     have hnw:nb2<wr.heap.size:=HM.out.map.lt;clear hkd hc2
     go_wp2_with fail
     clear q0 q1 q2 c5;generalize wr.alloc (.cells #[.func (.func kfn) #[] kcap,.string kdata,.bool true] 120)=wA at*;have hen:∀(w:ak) (args:Array Value),(callFunc kfn args).run Tryz.prog w=.ok (.enter kfn args) w:=HEN.out
     go_region_held3 (fun w'=>w'.cell? ⟨wr.heap.size,0,none⟩=some (.func (.func kfn) #[] kcap)/\w'.cell? ⟨wr.heap.size,1,none⟩=some (.string kdata)) (first|exact⟨g0,g1⟩|exact hS5) (first|(refine(HCA.out wA.drew rfl).mono ?_;rintro e w6 ⟨rfl,hm5,ht5⟩;have hS5:w6.cell? ⟨wr.heap.size,0,none⟩=some (.func (.func kfn) #[] kcap)/\w6.cell? ⟨wr.heap.size,1,none⟩=some (.string kdata):=⟨(aF (w:=wA) (a:=⟨wr.heap.size,0,none⟩) (ht5.block wr.heap.size hsz1 aJ)).trans g0,(aF (w:=wA) (a:=⟨wr.heap.size,1,none⟩) (ht5.block wr.heap.size hsz1 aJ)).trans g1⟩))
     all_goals
      obtain⟨L,hL⟩:∃L,L=fC (jr r j) (wh (iD r.wait j) (kdata.extract 0 c2)):=⟨_,rfl⟩;rw[<-hL] at HL6 hm5;have HR6:Hid (bH w6 fb d 1 nb2 sb (.slice (some ⟨g,0,none⟩) S.length cs)):=(ht5.block fb HRA.out.lt aJ).trans HRA.out;have HM6:Hid (dF w6 nb2 (m+r.wait.length) L):=hm5.mono (by have:=HJ.out;omega);have HT6:Hid (aW (fun k=>k=fb) w w6):=HTA.out.trans (G:=fun k=>k=nb2) (c:=w6) ⟨ht5.os,ht5.output,ht5.size,ht5.block⟩ (fun i hi=>aP aJ);clear hm5 ht5 hS5 HCA HEN hen HTJ HRA HMA HTA g0 g1 hL HPO
      skip
      have HNE:Hid (nb2≠fb):=by show _≠_;omega
      have HKS:Hid (Calls Tryz.prog 61 #[.pointer (some ⟨fb,0,none⟩)] w6 fun e w'=>e=.returned (.tuple #[])/\bH w' fb d 1 nb2 w6.heap.size (.slice none 0 0)/\dF w' nb2 (m+r.wait.length) L/\dF w' w6.heap.size (m+r.wait.length) L/\aW (fun k=>k=fb) w6 w'):=qP L d fb 1 nb2 sb _ _ w6 HR6.out HM6.out HNE.out
      go_wp2_with fail
      refine HKS.out.mono ?_;rintro e w7 ⟨rfl,hr7,hm7,hz7,ht7⟩;have HR7:=aV hr7;have HM7:=aV (aO hm7 hz7);have HT7:Hid (aW (fun k=>k=fb) w w7):=HT6.out.trans ht7 (fun i hi=>aK hi);have HN7:=aV (aO HM6.out.lt HT6.out.size)
      have c6:w7.cell? ⟨fb,6,none⟩=some (.int .i64 d.fuse):=by rw[aj _ _ _ _ _ _ HR7.out];rfl
      have f6:w7.frozen? ⟨fb,6,none⟩=false:=aD _ _ _ _ _ HR7.out;have HR8:=aV ((HR7.out.setFuse 0).setDown false)
      have c7:(w7.setCell ⟨fb,6,none⟩ (.int .i64 0)).cell? ⟨fb,7,none⟩=some (.bool d.down):=by rw[aj _ _ _ _ _ _ (HR7.out.setFuse 0)];rfl
      have f7:(w7.setCell ⟨fb,6,none⟩ (.int .i64 0)).frozen? ⟨fb,7,none⟩=false:=aD _ _ _ _ _ (HR7.out.setFuse 0);clear hr7 hm7 hz7 ht7 HKS HR6 HM6 HT6 HR7
      go_wp2
      have HR2:=HR8;refine fA (f:=59) (args:=#[.pointer (some ⟨fb,0,none⟩)]) eB FE ?_;refine(unlock_deferred ku ⟨fb,0,none⟩ .returning _ ?_ ?_).mono ?_;(rw[aj _ _ _ _ _ _ HR2.out];rfl);(exact aD _ _ _ _ _ HR2.out);rintro e u' w'' ⟨rfl,rfl,rfl⟩;refine⟨_,eY rfl _ _ _,rfl,nb2,w6.heap.size,HR8.out.setLock 0,?_,?_,((HT7.out.setCell ⟨fb,6,none⟩ _ (aK rfl)).setCell ⟨fb,7,none⟩ _ (aK rfl)).setCell ⟨fb,0,none⟩ _ (aK rfl),hws,HN7.out.2,?_⟩
      ·rw[HL6.out];exact HM7.out.1.keep (by rw[au _ _ _ _ HNE.out,au _ _ _ _ HNE.out,au _ _ _ _ HNE.out])
      ·have hn:w6.heap.size≠fb:=by have:=HN7.out.2;omega
       rw[HL6.out];exact HM7.out.2.keep (by rw[au _ _ _ _ hn,au _ _ _ _ hn,au _ _ _ _ hn])
      have:=HN7.out.1;omega
    have hkc2:kcuts=false:=by simpa using hkc
    subst hkc2;obtain⟨L,hL⟩:∃L,L=jr r j:=⟨_,rfl⟩;obtain⟨w6,hw6⟩:∃w6,w6=wr:=⟨_,rfl⟩
    have HL6:Hid (iP r keep cut=L):=by
     show _=_;rw[iP,aA ?_,HK.out.1,hL]
     exact fun h=>absurd h.2.1 (by rw[HK.out.1];have:=HPT.out;simpa using this)
    subst hw6;have HR6:Hid _:=HM.out.row
    have HM6:Hid (dF w6 nb2 (m+r.wait.length) L):=by rw[hL];exact HM.out.map.mono (by have:=HK.out.2;omega)
    have HT6:=aV HM.out.turns;have c5:=bH.c5 HR6.out;clear hL
    skip
    have HNE:Hid (nb2≠fb):=by show _≠_;omega
    have HKS:Hid (Calls Tryz.prog 61 #[.pointer (some ⟨fb,0,none⟩)] w6 fun e w'=>e=.returned (.tuple #[])/\bH w' fb d 1 nb2 w6.heap.size (.slice none 0 0)/\dF w' nb2 (m+r.wait.length) L/\dF w' w6.heap.size (m+r.wait.length) L/\aW (fun k=>k=fb) w6 w'):=qP L d fb 1 nb2 sb _ _ w6 HR6.out HM6.out HNE.out
    go_wp2_with fail
    refine HKS.out.mono ?_;rintro e w7 ⟨rfl,hr7,hm7,hz7,ht7⟩;have HR7:=aV hr7;have HM7:=aV (aO hm7 hz7);have HT7:Hid (aW (fun k=>k=fb) w w7):=HT6.out.trans ht7 (fun i hi=>aK hi);have HN7:=aV (aO HM6.out.lt HT6.out.size)
    have c6:w7.cell? ⟨fb,6,none⟩=some (.int .i64 d.fuse):=by rw[aj _ _ _ _ _ _ HR7.out];rfl
    have f6:w7.frozen? ⟨fb,6,none⟩=false:=aD _ _ _ _ _ HR7.out;have HR8:=aV ((HR7.out.setFuse 0).setDown false)
    have c7:(w7.setCell ⟨fb,6,none⟩ (.int .i64 0)).cell? ⟨fb,7,none⟩=some (.bool d.down):=by rw[aj _ _ _ _ _ _ (HR7.out.setFuse 0)];rfl
    have f7:(w7.setCell ⟨fb,6,none⟩ (.int .i64 0)).frozen? ⟨fb,7,none⟩=false:=aD _ _ _ _ _ (HR7.out.setFuse 0);clear hr7 hm7 hz7 ht7 HKS HR6 HM6 HT6 HR7
    go_wp2
    have HR2:=HR8;refine fA (f:=59) (args:=#[.pointer (some ⟨fb,0,none⟩)]) eB FE ?_;refine(unlock_deferred ku ⟨fb,0,none⟩ .returning _ ?_ ?_).mono ?_;(rw[aj _ _ _ _ _ _ HR2.out];rfl);(exact aD _ _ _ _ _ HR2.out);rintro e u' w'' ⟨rfl,rfl,rfl⟩;refine⟨_,eY rfl _ _ _,rfl,nb2,w6.heap.size,HR8.out.setLock 0,?_,?_,((HT7.out.setCell ⟨fb,6,none⟩ _ (aK rfl)).setCell ⟨fb,7,none⟩ _ (aK rfl)).setCell ⟨fb,0,none⟩ _ (aK rfl),hws,HN7.out.2,?_⟩
    ·rw[HL6.out];exact HM7.out.1.keep (by rw[au _ _ _ _ HNE.out,au _ _ _ _ HNE.out,au _ _ _ _ HNE.out])
    ·have hn:w6.heap.size≠fb:=by have:=HN7.out.2;omega
     rw[HL6.out];exact HM7.out.2.keep (by rw[au _ _ _ _ hn,au _ _ _ _ hn,au _ _ _ _ hn])
    have:=HN7.out.1;omega
   have hcut2:cut<0:=aJ
   obtain⟨L,hL⟩:∃L,L=jr r j:=⟨_,rfl⟩;obtain⟨w6,hw6⟩:∃w6,w6=wr:=⟨_,rfl⟩
   have HL6:Hid (iP r keep cut=L):=by
    show _=_;rw[iP,aA ?_,HK.out.1,hL]
    exact fun h=>hcut h.2.2
   subst hw6;have HR6:Hid _:=HM.out.row
   have HM6:Hid (dF w6 nb2 (m+r.wait.length) L):=by rw[hL];exact HM.out.map.mono (by have:=HK.out.2;omega)
   have HT6:=aV HM.out.turns;have c5:=bH.c5 HR6.out;clear hL
   skip
   have HNE:Hid (nb2≠fb):=by show _≠_;omega
   have HKS:Hid (Calls Tryz.prog 61 #[.pointer (some ⟨fb,0,none⟩)] w6 fun e w'=>e=.returned (.tuple #[])/\bH w' fb d 1 nb2 w6.heap.size (.slice none 0 0)/\dF w' nb2 (m+r.wait.length) L/\dF w' w6.heap.size (m+r.wait.length) L/\aW (fun k=>k=fb) w6 w'):=qP L d fb 1 nb2 sb _ _ w6 HR6.out HM6.out HNE.out
   go_wp2_with fail
   refine HKS.out.mono ?_;rintro e w7 ⟨rfl,hr7,hm7,hz7,ht7⟩;have HR7:=aV hr7;have HM7:=aV (aO hm7 hz7);have HT7:Hid (aW (fun k=>k=fb) w w7):=HT6.out.trans ht7 (fun i hi=>aK hi);have HN7:=aV (aO HM6.out.lt HT6.out.size)
   have c6:w7.cell? ⟨fb,6,none⟩=some (.int .i64 d.fuse):=by rw[aj _ _ _ _ _ _ HR7.out];rfl
   have f6:w7.frozen? ⟨fb,6,none⟩=false:=aD _ _ _ _ _ HR7.out;have HR8:=aV ((HR7.out.setFuse 0).setDown false)
   have c7:(w7.setCell ⟨fb,6,none⟩ (.int .i64 0)).cell? ⟨fb,7,none⟩=some (.bool d.down):=by rw[aj _ _ _ _ _ _ (HR7.out.setFuse 0)];rfl
   have f7:(w7.setCell ⟨fb,6,none⟩ (.int .i64 0)).frozen? ⟨fb,7,none⟩=false:=aD _ _ _ _ _ (HR7.out.setFuse 0);clear hr7 hm7 hz7 ht7 HKS HR6 HM6 HT6 HR7
   go_wp2
   have HR2:=HR8;refine fA (f:=59) (args:=#[.pointer (some ⟨fb,0,none⟩)]) eB FE ?_;refine(unlock_deferred ku ⟨fb,0,none⟩ .returning _ ?_ ?_).mono ?_;(rw[aj _ _ _ _ _ _ HR2.out];rfl);(exact aD _ _ _ _ _ HR2.out);rintro e u' w'' ⟨rfl,rfl,rfl⟩;refine⟨_,eY rfl _ _ _,rfl,nb2,w6.heap.size,HR8.out.setLock 0,?_,?_,((HT7.out.setCell ⟨fb,6,none⟩ _ (aK rfl)).setCell ⟨fb,7,none⟩ _ (aK rfl)).setCell ⟨fb,0,none⟩ _ (aK rfl),hws,HN7.out.2,?_⟩
   ·rw[HL6.out];exact HM7.out.1.keep (by rw[au _ _ _ _ HNE.out,au _ _ _ _ HNE.out,au _ _ _ _ HNE.out])
   ·have hn:w6.heap.size≠fb:=by have:=HN7.out.2;omega
    rw[HL6.out];exact HM7.out.2.keep (by rw[au _ _ _ _ hn,au _ _ _ _ hn,au _ _ _ _ hn])
   have:=HN7.out.1;omega
  have i1:¬(j:Int)<(S.length:Int):=aJ
  by_cases hcut:0<=cut
  ·skip
   obtain⟨L,hL⟩:∃L,L=jr r j:=⟨_,rfl⟩;obtain⟨w6,hw6⟩:∃w6,w6=wr:=⟨_,rfl⟩
   have HL6:Hid (iP r keep cut=L):=by
    show _=_;rw[iP,aA ?_,HK.out.1,hL]
    exact fun h=>by have:=h.1;rw[HK.out.1,<-HLEN.out] at this;omega
   subst hw6;have HR6:Hid _:=HM.out.row
   have HM6:Hid (dF w6 nb2 (m+r.wait.length) L):=by rw[hL];exact HM.out.map.mono (by have:=HK.out.2;omega)
   have HT6:=aV HM.out.turns;have c5:=bH.c5 HR6.out;clear hL
   skip
   have HNE:Hid (nb2≠fb):=by show _≠_;omega
   have HKS:Hid (Calls Tryz.prog 61 #[.pointer (some ⟨fb,0,none⟩)] w6 fun e w'=>e=.returned (.tuple #[])/\bH w' fb d 1 nb2 w6.heap.size (.slice none 0 0)/\dF w' nb2 (m+r.wait.length) L/\dF w' w6.heap.size (m+r.wait.length) L/\aW (fun k=>k=fb) w6 w'):=qP L d fb 1 nb2 sb _ _ w6 HR6.out HM6.out HNE.out
   go_wp2_with fail
   refine HKS.out.mono ?_;rintro e w7 ⟨rfl,hr7,hm7,hz7,ht7⟩;have HR7:=aV hr7;have HM7:=aV (aO hm7 hz7);have HT7:Hid (aW (fun k=>k=fb) w w7):=HT6.out.trans ht7 (fun i hi=>aK hi);have HN7:=aV (aO HM6.out.lt HT6.out.size)
   have c6:w7.cell? ⟨fb,6,none⟩=some (.int .i64 d.fuse):=by rw[aj _ _ _ _ _ _ HR7.out];rfl
   have f6:w7.frozen? ⟨fb,6,none⟩=false:=aD _ _ _ _ _ HR7.out;have HR8:=aV ((HR7.out.setFuse 0).setDown false)
   have c7:(w7.setCell ⟨fb,6,none⟩ (.int .i64 0)).cell? ⟨fb,7,none⟩=some (.bool d.down):=by rw[aj _ _ _ _ _ _ (HR7.out.setFuse 0)];rfl
   have f7:(w7.setCell ⟨fb,6,none⟩ (.int .i64 0)).frozen? ⟨fb,7,none⟩=false:=aD _ _ _ _ _ (HR7.out.setFuse 0);clear hr7 hm7 hz7 ht7 HKS HR6 HM6 HT6 HR7
   go_wp2
   have HR2:=HR8;refine fA (f:=59) (args:=#[.pointer (some ⟨fb,0,none⟩)]) eB FE ?_;refine(unlock_deferred ku ⟨fb,0,none⟩ .returning _ ?_ ?_).mono ?_;(rw[aj _ _ _ _ _ _ HR2.out];rfl);(exact aD _ _ _ _ _ HR2.out);rintro e u' w'' ⟨rfl,rfl,rfl⟩;refine⟨_,eY rfl _ _ _,rfl,nb2,w6.heap.size,HR8.out.setLock 0,?_,?_,((HT7.out.setCell ⟨fb,6,none⟩ _ (aK rfl)).setCell ⟨fb,7,none⟩ _ (aK rfl)).setCell ⟨fb,0,none⟩ _ (aK rfl),hws,HN7.out.2,?_⟩
   ·rw[HL6.out];exact HM7.out.1.keep (by rw[au _ _ _ _ HNE.out,au _ _ _ _ HNE.out,au _ _ _ _ HNE.out])
   ·have hn:w6.heap.size≠fb:=by have:=HN7.out.2;omega
    rw[HL6.out];exact HM7.out.2.keep (by rw[au _ _ _ _ hn,au _ _ _ _ hn,au _ _ _ _ hn])
   have:=HN7.out.1;omega
  have hcut2:cut<0:=aJ
  obtain⟨L,hL⟩:∃L,L=jr r j:=⟨_,rfl⟩;obtain⟨w6,hw6⟩:∃w6,w6=wr:=⟨_,rfl⟩
  have HL6:Hid (iP r keep cut=L):=by
   show _=_;rw[iP,aA ?_,HK.out.1,hL]
   exact fun h=>by have:=h.1;rw[HK.out.1,<-HLEN.out] at this;omega
  subst hw6;have HR6:Hid _:=HM.out.row
  have HM6:Hid (dF w6 nb2 (m+r.wait.length) L):=by rw[hL];exact HM.out.map.mono (by have:=HK.out.2;omega)
  have HT6:=aV HM.out.turns;have c5:=bH.c5 HR6.out;clear hL
  skip
  have HNE:Hid (nb2≠fb):=by show _≠_;omega
  have HKS:Hid (Calls Tryz.prog 61 #[.pointer (some ⟨fb,0,none⟩)] w6 fun e w'=>e=.returned (.tuple #[])/\bH w' fb d 1 nb2 w6.heap.size (.slice none 0 0)/\dF w' nb2 (m+r.wait.length) L/\dF w' w6.heap.size (m+r.wait.length) L/\aW (fun k=>k=fb) w6 w'):=qP L d fb 1 nb2 sb _ _ w6 HR6.out HM6.out HNE.out
  go_wp2_with fail
  refine HKS.out.mono ?_;rintro e w7 ⟨rfl,hr7,hm7,hz7,ht7⟩;have HR7:=aV hr7;have HM7:=aV (aO hm7 hz7);have HT7:Hid (aW (fun k=>k=fb) w w7):=HT6.out.trans ht7 (fun i hi=>aK hi);have HN7:=aV (aO HM6.out.lt HT6.out.size)
  have c6:w7.cell? ⟨fb,6,none⟩=some (.int .i64 d.fuse):=by rw[aj _ _ _ _ _ _ HR7.out];rfl
  have f6:w7.frozen? ⟨fb,6,none⟩=false:=aD _ _ _ _ _ HR7.out;have HR8:=aV ((HR7.out.setFuse 0).setDown false)
  have c7:(w7.setCell ⟨fb,6,none⟩ (.int .i64 0)).cell? ⟨fb,7,none⟩=some (.bool d.down):=by rw[aj _ _ _ _ _ _ (HR7.out.setFuse 0)];rfl
  have f7:(w7.setCell ⟨fb,6,none⟩ (.int .i64 0)).frozen? ⟨fb,7,none⟩=false:=aD _ _ _ _ _ (HR7.out.setFuse 0);clear hr7 hm7 hz7 ht7 HKS HR6 HM6 HT6 HR7
  go_wp2
  have HR2:=HR8;refine fA (f:=59) (args:=#[.pointer (some ⟨fb,0,none⟩)]) eB FE ?_;refine(unlock_deferred ku ⟨fb,0,none⟩ .returning _ ?_ ?_).mono ?_;(rw[aj _ _ _ _ _ _ HR2.out];rfl);(exact aD _ _ _ _ _ HR2.out);rintro e u' w'' ⟨rfl,rfl,rfl⟩;refine⟨_,eY rfl _ _ _,rfl,nb2,w6.heap.size,HR8.out.setLock 0,?_,?_,((HT7.out.setCell ⟨fb,6,none⟩ _ (aK rfl)).setCell ⟨fb,7,none⟩ _ (aK rfl)).setCell ⟨fb,0,none⟩ _ (aK rfl),hws,HN7.out.2,?_⟩
  ·rw[HL6.out];exact HM7.out.1.keep (by rw[au _ _ _ _ HNE.out,au _ _ _ _ HNE.out,au _ _ _ _ HNE.out])
  ·have hn:w6.heap.size≠fb:=by have:=HN7.out.2;omega
   rw[HL6.out];exact HM7.out.2.keep (by rw[au _ _ _ _ hn,au _ _ _ _ hn,au _ _ _ _ hn])
  have:=HN7.out.1;omega
end
end Go.Proofs.YthhbpebihgjpjaaGreatDoor
