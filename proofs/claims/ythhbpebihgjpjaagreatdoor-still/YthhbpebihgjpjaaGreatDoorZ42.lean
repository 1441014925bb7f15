import Derived.Test.YthhbpebihgjpjaaGreatDoorZ33
import Derived.Test.YthhbpebihgjpjaaGreatDoorZ41
namespace Go.Proofs.YthhbpebihgjpjaaGreatDoor
set_option maxRecDepth 1000000
set_option maxHeartbeats 20000000
set_option linter.all false
section
open Go.RowKit Go.Maps
variable {a:Nat->Addr}{B rb m:Nat}{w:ak}
theorem iQ.from{w1 w':ak}{r:Res}{e:Ending}(h:iQ a B rb m w1 r e w')(hb:Below B w w1):iQ a B rb m w r e w':=by
 unfold iQ at*
 cases r with
 |error bk=>exact⟨h.1,hb.trans h.2⟩
 |ok Sr=>exact⟨h.1,h.2.1,hb.trans h.2.2⟩
theorem DZ(t k:ah):vX t k=(gq (gV t) 32&&decide (fE t=k)):=by
 unfold vX gq;rw[yj,tu];simp only[lg,rf];have hle:dB t<=t.size:=kg _ _
 have hb:dB t<t.size->byteOf (gV t) 0=byteOf t (dB t):=fun h=>by
  unfold gV;rw[kF _ _ _ _ aJ (ai _),kX]
 constructor
 ·rintro ⟨h1,h2,h3⟩;exact⟨⟨aJ,by rw[hb h2];exact h3⟩,h1⟩
 rintro ⟨⟨h1,h2⟩,h3⟩
 have h4:dB t<t.size:=aJ
 exact⟨h3,h4,by rw[<-hb h4];exact h2⟩
theorem ael{t k:ah}(h:fE t=k):t.extract k.size t.size=gV t:=by
 have:=mh t;rw[h] at this;unfold gV;rw[this]
theorem Fx(hE:Rz){p:PV}{n:Int}{x:dQ}{rest:List dQ}{S:St}(h:iF p a B w rb n (x::rest) S (m+1)):
  Calls Tryz.prog 114 #[.pointer (some ⟨rb,0,none⟩)] w (iQ a B rb m w (qZ S x.1 x.2 rest)):=by
 have H:=aV h;have HT:=Me h;have hts:x.2.size<=4000:=h.ok.lines x aQ;obtain⟨xn,xt⟩:=x;have HT:=aV HT;simp only at hts;show Calls _ _ _ _ (iQ a B rb m w (qZ S xn xt rest));clear h
 have HS:Hid (qZ S xn xt rest=if gq xt 32=true then .error (.syn,xn)
  else if vX xt UH=true then wz S xn (xt.extract 4 xt.size) rest
  else if vX xt Mc=true then kZ S xn (xt.extract 5 xt.size) rest
  else if vX xt Cg=true then oq S xn (xt.extract 7 xt.size) rest
  else Nw S xn xt rest):=rfl
 have HPT:Hid (∀wx,Calls Tryz.prog 193 #[.string xt,.string ⟨#[32]⟩] wx fun e w'=>e=.returned (.bool (gq xt 32))/\w'=wx):=fun wx=>pW xt 32 wx
 cases hb:gq xt 32 with
 |true=>
  have HF:Hid (qZ S xn xt rest=.error (.syn,xn)):=by rw[HS.out,aH hb];rfl
  rw[hb] at HPT
  go_enter Tryz.func114,Tryz.ntmps114
  go_wp2_with fail
  refine HT.out.mono ?_;rintro e w1 ⟨rfl,⟨Vk,hp1⟩,hg1⟩;have tK:Hid (iF {p with vl:=Vk} a B w1.drew rb (xn:Nat) rest S (m+1)):=hp1.below (ay _ _).drew;have HB1:=aV ((jP hg1 H.out.vY H.out.bw).drew);have c4:w1.cell? ⟨4,0,none⟩=some (.iface 472 (.pointer (some (a 4)))):=hp1.gl.errs 4 bS;clear hp1 hg1
  go_wp2_with fail
  have uT:Hid (Calls Tryz.prog 112 #[.pointer (some ⟨rb,0,none⟩),.bool false,.iface 472 (.pointer (some (a 4)))] w1.drew fun e w'=>jF (xn:Nat) (ja a 4) e w'/\Below B w w'):=(pz rb (xn:Nat) _ _ w1.drew tK.out.Ji).mono (fun e w' h=>⟨h.1,HB1.out.trans (h.2.mono tK.out.bw)⟩)
  go_region_with (first|(go_at_call 193;refine(HPT.out _).mono ?_;rintro e w8 ⟨rfl,rfl⟩)|(go_at_call 112;refine uT.out.mono ?_;rintro e w8 ⟨hst,mH⟩;obtain⟨b,rfl,s0,s1⟩:=hst;refine uo ⟨rfl,(by rw[HF.out];exact⟨⟨b,rfl,s0,s1⟩,mH⟩)⟩ w ?_))
  all_goals trivial
 |false=>
  have Dy:Hid (∀wx,Calls Tryz.prog 194 #[.string xt] wx fun e w'=>e=.returned (.tuple #[.string (fE xt),.string (gV xt)])/\∃n,w'=wx.drewN n):=fun wx=>qB xt aJ wx
  have HPR:Hid (∀wx,Calls Tryz.prog 193 #[.string (gV xt),.string ⟨#[32]⟩] wx fun e w'=>e=.returned (.bool (gq (gV xt) 32))/\w'=wx):=fun wx=>pW (gV xt) 32 wx
  have HTS:Hid ((gV xt).size<=4000):=by show _<=_;rw[yj];omega
  have JA:Hid (∀k,fE xt=k->xt.extract k.size xt.size=gV xt):=fun k hk=>ael hk
  rw[hb,aA bS,DZ,DZ,DZ] at HS;rw[hb] at HPT;clear hb;generalize gV xt=TL at*
  cases hp:gq TL 32 with
  |false=>
   have HF:Hid (qZ S xn xt rest=Nw S xn xt rest):=by
    rw[HS.out,hp];rfl
   rw[hp] at HPR;clear HS;generalize fE xt=HD at*
   go_enter Tryz.func114,Tryz.ntmps114
   go_wp2_with fail
   refine HT.out.mono ?_;rintro e w1 ⟨rfl,⟨Vk,hp1⟩,hg1⟩;have tK:Hid (iF {p with vl:=Vk} a B w1.drew rb (xn:Nat) rest S (m+1)):=hp1.below (ay _ _).drew;have HB1:=aV ((jP hg1 H.out.vY H.out.bw).drew);have c4:w1.cell? ⟨4,0,none⟩=some (.iface 472 (.pointer (some (a 4)))):=hp1.gl.errs 4 bS;clear hp1 hg1
   go_wp2_with fail
   go_region_with (first|(go_at_call 193;refine(HPT.out _).mono ?_;rintro e w8 ⟨rfl,rfl⟩)|(go_at_call 112;refine(gL _ _ _).mono ?_;rintro e w8 ⟨rfl,rfl⟩))
   all_goals
    obtain⟨w2,hw2⟩:∃w2,w2=w1.drew:=⟨_,rfl⟩;rw[<-hw2];rw[<-hw2] at tK HB1;clear hw2 c4
    go_wp2_with fail
    refine(Dy.out _).mono ?_;rintro e w3 ⟨rfl,k3,hw3⟩
    have Es:Hid (iF {p with vl:=Vk} a B w3 rb (xn:Nat) rest S (m+1)):=by rw[hw3];exact tK.out.below (di (ay _ _) k3)
    have HB3:Hid (Below B w w3):=by rw[hw3];exact di HB1.out k3
    have d2:w3.cell? ⟨rb,2,none⟩=some (.pointer (some ⟨p.sb,0,none⟩)):=by rw[aj _ _ _ _ _ _ Es.out.row];rfl
    clear hw3 tK HB1
    go_wp2_with fail
    refine(HPR.out _).mono ?_;rintro e w4 ⟨rfl,rfl⟩
    go_wp2_with fail
    refine(Mh Es.out hts).mono ?_;intro e w5 hend;have hend:=iQ.from hend HB3.out;rw[<-HF.out] at hend
    cases e with
    |returned v=>
     have hv:v=.tuple #[]:=by
      unfold iQ at hend
      split at hend
      ·obtain⟨⟨b,e,_⟩,_⟩:=hend;cases e
      have e:=hend.1;injection e
     subst hv;have FR:=aV hend;clear hend
     go_wp2_with fail
     go_end0
     exact FR.out
    |panicked c=>exact⟨rfl,hend⟩
    |outgrown=>
     unfold iQ at hend
     split at hend
     ·obtain⟨⟨b,e,_⟩,_⟩:=hend;cases e
     have e:=hend.1;cases e
  |true=>
   rw[hp] at HPR HS;simp only[Bool.true_and,lg] at HS
   by_cases h1:fE xt=UH
   ·have HF:Hid (qZ S xn xt rest=wz S xn TL rest):=by
     rw[HS.out,aH h1,<-JA.out UH h1];rfl
    rw[h1] at Dy;clear HS;unfold UH at Dy
    go_enter Tryz.func114,Tryz.ntmps114
    go_wp2_with fail
    refine HT.out.mono ?_;rintro e w1 ⟨rfl,⟨Vk,hp1⟩,hg1⟩;have tK:Hid (iF {p with vl:=Vk} a B w1.drew rb (xn:Nat) rest S (m+1)):=hp1.below (ay _ _).drew;have HB1:=aV ((jP hg1 H.out.vY H.out.bw).drew);have c4:w1.cell? ⟨4,0,none⟩=some (.iface 472 (.pointer (some (a 4)))):=hp1.gl.errs 4 bS;clear hp1 hg1
    go_wp2_with fail
    go_region_with (first|(go_at_call 193;refine(HPT.out _).mono ?_;rintro e w8 ⟨rfl,rfl⟩)|(go_at_call 112;refine(gL _ _ _).mono ?_;rintro e w8 ⟨rfl,rfl⟩))
    all_goals
     obtain⟨w2,hw2⟩:∃w2,w2=w1.drew:=⟨_,rfl⟩;rw[<-hw2];rw[<-hw2] at tK HB1;clear hw2 c4
     go_wp2_with fail
     refine(Dy.out _).mono ?_;rintro e w3 ⟨rfl,k3,hw3⟩
     have Es:Hid (iF {p with vl:=Vk} a B w3 rb (xn:Nat) rest S (m+1)):=by rw[hw3];exact tK.out.below (di (ay _ _) k3)
     have HB3:Hid (Below B w w3):=by rw[hw3];exact di HB1.out k3
     have d2:w3.cell? ⟨rb,2,none⟩=some (.pointer (some ⟨p.sb,0,none⟩)):=by rw[aj _ _ _ _ _ _ Es.out.row];rfl
     clear hw3 tK HB1
     go_wp2_with fail
     refine(HPR.out _).mono ?_;rintro e w4 ⟨rfl,rfl⟩
     go_wp2_with fail
     refine(QX Es.out HTS.out).mono ?_;intro e w5 hend;have hend:=iQ.from hend HB3.out;rw[<-HF.out] at hend
     cases e with
     |returned v=>
      have hv:v=.tuple #[]:=by
       unfold iQ at hend
       split at hend
       ·obtain⟨⟨b,e,_⟩,_⟩:=hend;cases e
       have e:=hend.1;injection e
      subst hv;have FR:=aV hend;clear hend
      go_wp2_with fail
      go_end0
      exact FR.out
     |panicked c=>exact⟨rfl,hend⟩
     |outgrown=>
      unfold iQ at hend
      split at hend
      ·obtain⟨⟨b,e,_⟩,_⟩:=hend;cases e
      have e:=hend.1;cases e
   rw[aA h1] at HS;have q1:((fE xt).toList==[114,117,108,101])=false:=wE h1
   by_cases h2:fE xt=Mc
   ·have HF:Hid (qZ S xn xt rest=kZ S xn TL rest):=by
     rw[HS.out,aH h2,<-JA.out Mc h2];rfl
    rw[h2] at Dy;clear HS q1;unfold Mc at Dy
    go_enter Tryz.func114,Tryz.ntmps114
    go_wp2_with fail
    refine HT.out.mono ?_;rintro e w1 ⟨rfl,⟨Vk,hp1⟩,hg1⟩;have tK:Hid (iF {p with vl:=Vk} a B w1.drew rb (xn:Nat) rest S (m+1)):=hp1.below (ay _ _).drew;have HB1:=aV ((jP hg1 H.out.vY H.out.bw).drew);have c4:w1.cell? ⟨4,0,none⟩=some (.iface 472 (.pointer (some (a 4)))):=hp1.gl.errs 4 bS;clear hp1 hg1
    go_wp2_with fail
    go_region_with (first|(go_at_call 193;refine(HPT.out _).mono ?_;rintro e w8 ⟨rfl,rfl⟩)|(go_at_call 112;refine(gL _ _ _).mono ?_;rintro e w8 ⟨rfl,rfl⟩))
    all_goals
     obtain⟨w2,hw2⟩:∃w2,w2=w1.drew:=⟨_,rfl⟩;rw[<-hw2];rw[<-hw2] at tK HB1;clear hw2 c4
     go_wp2_with fail
     refine(Dy.out _).mono ?_;rintro e w3 ⟨rfl,k3,hw3⟩
     have Es:Hid (iF {p with vl:=Vk} a B w3 rb (xn:Nat) rest S (m+1)):=by rw[hw3];exact tK.out.below (di (ay _ _) k3)
     have HB3:Hid (Below B w w3):=by rw[hw3];exact di HB1.out k3
     have d2:w3.cell? ⟨rb,2,none⟩=some (.pointer (some ⟨p.sb,0,none⟩)):=by rw[aj _ _ _ _ _ _ Es.out.row];rfl
     clear hw3 tK HB1
     go_wp2_with fail
     refine(HPR.out _).mono ?_;rintro e w4 ⟨rfl,rfl⟩
     go_wp2_with fail
     refine(hE _ _ _ _ _ _ _ _ _ _ Es.out HTS.out).mono ?_;intro e w5 hend;have hend:=iQ.from hend HB3.out;rw[<-HF.out] at hend
     cases e with
     |returned v=>
      have hv:v=.tuple #[]:=by
       unfold iQ at hend
       split at hend
       ·obtain⟨⟨b,e,_⟩,_⟩:=hend;cases e
       have e:=hend.1;injection e
      subst hv;have FR:=aV hend;clear hend
      go_wp2_with fail
      go_end0
      exact FR.out
     |panicked c=>exact⟨rfl,hend⟩
     |outgrown=>
      unfold iQ at hend
      split at hend
      ·obtain⟨⟨b,e,_⟩,_⟩:=hend;cases e
      have e:=hend.1;cases e
   rw[aA h2] at HS;have q2:((fE xt).toList==[98,117,105,108,100])=false:=wE h2
   by_cases h3:fE xt=Cg
   ·have HF:Hid (qZ S xn xt rest=oq S xn TL rest):=by
     rw[HS.out,aH h3,<-JA.out Cg h3];rfl
    rw[h3] at Dy;clear HS q1 q2;unfold Cg at Dy
    go_enter Tryz.func114,Tryz.ntmps114
    go_wp2_with fail
    refine HT.out.mono ?_;rintro e w1 ⟨rfl,⟨Vk,hp1⟩,hg1⟩;have tK:Hid (iF {p with vl:=Vk} a B w1.drew rb (xn:Nat) rest S (m+1)):=hp1.below (ay _ _).drew;have HB1:=aV ((jP hg1 H.out.vY H.out.bw).drew);have c4:w1.cell? ⟨4,0,none⟩=some (.iface 472 (.pointer (some (a 4)))):=hp1.gl.errs 4 bS;clear hp1 hg1
    go_wp2_with fail
    go_region_with (first|(go_at_call 193;refine(HPT.out _).mono ?_;rintro e w8 ⟨rfl,rfl⟩)|(go_at_call 112;refine(gL _ _ _).mono ?_;rintro e w8 ⟨rfl,rfl⟩))
    all_goals
     obtain⟨w2,hw2⟩:∃w2,w2=w1.drew:=⟨_,rfl⟩;rw[<-hw2];rw[<-hw2] at tK HB1;clear hw2 c4
     go_wp2_with fail
     refine(Dy.out _).mono ?_;rintro e w3 ⟨rfl,k3,hw3⟩
     have Es:Hid (iF {p with vl:=Vk} a B w3 rb (xn:Nat) rest S (m+1)):=by rw[hw3];exact tK.out.below (di (ay _ _) k3)
     have HB3:Hid (Below B w w3):=by rw[hw3];exact di HB1.out k3
     have d2:w3.cell? ⟨rb,2,none⟩=some (.pointer (some ⟨p.sb,0,none⟩)):=by rw[aj _ _ _ _ _ _ Es.out.row];rfl
     clear hw3 tK HB1
     go_wp2_with fail
     refine(HPR.out _).mono ?_;rintro e w4 ⟨rfl,rfl⟩
     go_wp2_with fail
     refine(GH Es.out HTS.out).mono ?_;intro e w5 hend;have hend:=iQ.from hend HB3.out;rw[<-HF.out] at hend
     cases e with
     |returned v=>
      have hv:v=.tuple #[]:=by
       unfold iQ at hend
       split at hend
       ·obtain⟨⟨b,e,_⟩,_⟩:=hend;cases e
       have e:=hend.1;injection e
      subst hv;have FR:=aV hend;clear hend
      go_wp2_with fail
      go_end0
      exact FR.out
     |panicked c=>exact⟨rfl,hend⟩
     |outgrown=>
      unfold iQ at hend
      split at hend
      ·obtain⟨⟨b,e,_⟩,_⟩:=hend;cases e
      have e:=hend.1;cases e
   rw[aA h3] at HS;have q3:((fE xt).toList==[100,101,102,97,117,108,116])=false:=wE h3;have HF:=aV (HS.out);clear HS h1 h2 h3 JA;generalize fE xt=HD at*
   go_enter Tryz.func114,Tryz.ntmps114
   go_wp2_with fail
   refine HT.out.mono ?_;rintro e w1 ⟨rfl,⟨Vk,hp1⟩,hg1⟩;have tK:Hid (iF {p with vl:=Vk} a B w1.drew rb (xn:Nat) rest S (m+1)):=hp1.below (ay _ _).drew;have HB1:=aV ((jP hg1 H.out.vY H.out.bw).drew);have c4:w1.cell? ⟨4,0,none⟩=some (.iface 472 (.pointer (some (a 4)))):=hp1.gl.errs 4 bS;clear hp1 hg1
   go_wp2_with fail
   go_region_with (first|(go_at_call 193;refine(HPT.out _).mono ?_;rintro e w8 ⟨rfl,rfl⟩)|(go_at_call 112;refine(gL _ _ _).mono ?_;rintro e w8 ⟨rfl,rfl⟩))
   all_goals
    obtain⟨w2,hw2⟩:∃w2,w2=w1.drew:=⟨_,rfl⟩;rw[<-hw2];rw[<-hw2] at tK HB1;clear hw2 c4
    go_wp2_with fail
    refine(Dy.out _).mono ?_;rintro e w3 ⟨rfl,k3,hw3⟩
    have Es:Hid (iF {p with vl:=Vk} a B w3 rb (xn:Nat) rest S (m+1)):=by rw[hw3];exact tK.out.below (di (ay _ _) k3)
    have HB3:Hid (Below B w w3):=by rw[hw3];exact di HB1.out k3
    have d2:w3.cell? ⟨rb,2,none⟩=some (.pointer (some ⟨p.sb,0,none⟩)):=by rw[aj _ _ _ _ _ _ Es.out.row];rfl
    clear hw3 tK HB1
    go_wp2_with fail
    refine(HPR.out _).mono ?_;rintro e w4 ⟨rfl,rfl⟩
    go_wp2_with fail
    refine(Mh Es.out hts).mono ?_;intro e w5 hend;have hend:=iQ.from hend HB3.out;rw[<-HF.out] at hend
    cases e with
    |returned v=>
     have hv:v=.tuple #[]:=by
      unfold iQ at hend
      split at hend
      ·obtain⟨⟨b,e,_⟩,_⟩:=hend;cases e
      have e:=hend.1;injection e
     subst hv;have FR:=aV hend;clear hend
     go_wp2_with fail
     go_end0
     exact FR.out
    |panicked c=>exact⟨rfl,hend⟩
    |outgrown=>
     unfold iQ at hend
     split at hend
     ·obtain⟨⟨b,e,_⟩,_⟩:=hend;cases e
     have e:=hend.1;cases e
end
end Go.Proofs.YthhbpebihgjpjaaGreatDoor
