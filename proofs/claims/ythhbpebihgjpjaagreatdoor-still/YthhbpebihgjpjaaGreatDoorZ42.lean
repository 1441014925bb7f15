import Derived.Test.YthhbpebihgjpjaaGreatDoorZ33
import Derived.Test.YthhbpebihgjpjaaGreatDoorZ41
namespace Go.Proofs.YthhbpebihgjpjaaGreatDoor
set_option maxRecDepth 1000000
set_option maxHeartbeats 20000000
set_option linter.all false
section
open Go.RowKit Go.Maps
variable {a:Nat->Addr}{B rb m:Nat}{w:aj}
theorem iL.from{w1 w':aj}{r:Res}{e:Ending}(h:iL a B rb m w1 r e w')(hb:Below B w w1):iL a B rb m w r e w':=by
 unfold iL at*
 cases r with
 |error bk=>exact⟨h.1,hb.trans h.2⟩
 |ok Sr=>exact⟨h.1,h.2.1,hb.trans h.2.2⟩
theorem DX(t k:ah):vU t k=(fQ (gL t) 32&&decide (fo t=k)):=by
 unfold vU fQ;rw[yc,sW];simp only[kW,qW];have hle:di t<=t.size:=jX _ _
 have hb:di t<t.size->byteOf (gL t) 0=byteOf t (di t):=fun h=>by
  unfold gL;rw[kC _ _ _ _ (by omega) (ai _),kT]
 constructor
 ·rintro ⟨h1,h2,h3⟩;exact⟨⟨by omega,by rw[hb h2];exact h3⟩,h1⟩
 rintro ⟨⟨h1,h2⟩,h3⟩
 have h4:di t<t.size:=by omega
 exact⟨h3,h4,by rw[<-hb h4];exact h2⟩
theorem aeh{t k:ah}(h:fo t=k):t.extract k.size t.size=gL t:=by
 have:=lX t;rw[h] at this;unfold gL;rw[this]
theorem Fw(hE:Rw){p:PV}{n:Int}{x:dK}{rest:List dK}{S:St}(h:ig p a B w rb n (x::rest) S (m+1)):
  Calls Tryz.prog 114 #[.pointer (some ⟨rb,0,none⟩)] w (iL a B rb m w (qV S x.1 x.2 rest)):=by
 have H:=aP h;have HT:=Me h;have hts:x.2.size<=4000:=h.ok.lines x aM;obtain⟨xn,xt⟩:=x;have HT:=aP HT;simp only at hts;show Calls _ _ _ _ (iL a B rb m w (qV S xn xt rest));clear h
 have HS:Hid (qV S xn xt rest=if fQ xt 32=true then .error (.syn,xn)
  else if vU xt UE=true then wh S xn (xt.extract 4 xt.size) rest
  else if vU xt Mc=true then kV S xn (xt.extract 5 xt.size) rest
  else if vU xt Ce=true then oh S xn (xt.extract 7 xt.size) rest
  else Nu S xn xt rest):=rfl
 have HPT:Hid (∀wx,Calls Tryz.prog 193 #[.string xt,.string ⟨#[32]⟩] wx fun e w'=>e=.returned (.bool (fQ xt 32))/\w'=wx):=fun wx=>pR xt 32 wx
 cases hb:fQ xt 32 with
 |true=>
  have HF:Hid (qV S xn xt rest=.error (.syn,xn)):=by rw[HS.out,aD hb];rfl
  rw[hb] at HPT
  go_enter Tryz.func114,Tryz.ntmps114
  go_wp2_with fail
  refine HT.out.mono ?_;rintro e w1 ⟨rfl,⟨Vi,hp1⟩,hg1⟩;have tC:Hid (ig {p with vl:=Vi} a B w1.drew rb (xn:Nat) rest S (m+1)):=hp1.below (au _ _).drew;have HB1:=aP ((jL hg1 H.out.vV H.out.bw).drew);have c4:w1.cell? ⟨4,0,none⟩=some (.iface 472 (.pointer (some (a 4)))):=hp1.gl.errs 4 (by decide);clear hp1 hg1
  go_wp2_with fail
  have uR:Hid (Calls Tryz.prog 112 #[.pointer (some ⟨rb,0,none⟩),.bool false,.iface 472 (.pointer (some (a 4)))] w1.drew fun e w'=>jB (xn:Nat) (iW a 4) e w'/\Below B w w'):=(pq rb (xn:Nat) _ _ w1.drew tC.out.Jg).mono (fun e w' h=>⟨h.1,HB1.out.trans (h.2.mono tC.out.bw)⟩)
  go_region_with (first|(go_at_call 193;refine(HPT.out _).mono ?_;rintro e w8 ⟨rfl,rfl⟩)|(go_at_call 112;refine uR.out.mono ?_;rintro e w8 ⟨hst,mr⟩;obtain⟨b,rfl,s0,s1⟩:=hst;refine uj ⟨rfl,(by rw[HF.out];exact⟨⟨b,rfl,s0,s1⟩,mr⟩)⟩ w ?_))
  all_goals trivial
 |false=>
  have Dx:Hid (∀wx,Calls Tryz.prog 194 #[.string xt] wx fun e w'=>e=.returned (.tuple #[.string (fo xt),.string (gL xt)])/\∃n,w'=wx.drewN n):=fun wx=>qy xt (by omega) wx
  have HPR:Hid (∀wx,Calls Tryz.prog 193 #[.string (gL xt),.string ⟨#[32]⟩] wx fun e w'=>e=.returned (.bool (fQ (gL xt) 32))/\w'=wx):=fun wx=>pR (gL xt) 32 wx
  have HTS:Hid ((gL xt).size<=4000):=by show _<=_;rw[yc];omega
  have Jy:Hid (∀k,fo xt=k->xt.extract k.size xt.size=gL xt):=fun k hk=>aeh hk
  rw[hb,ax (by decide),DX,DX,DX] at HS;rw[hb] at HPT;clear hb;generalize gL xt=TL at*
  cases hp:fQ TL 32 with
  |false=>
   have HF:Hid (qV S xn xt rest=Nu S xn xt rest):=by
    rw[HS.out,hp];rfl
   rw[hp] at HPR;clear HS;generalize fo xt=HD at*
   go_enter Tryz.func114,Tryz.ntmps114
   go_wp2_with fail
   refine HT.out.mono ?_;rintro e w1 ⟨rfl,⟨Vi,hp1⟩,hg1⟩;have tC:Hid (ig {p with vl:=Vi} a B w1.drew rb (xn:Nat) rest S (m+1)):=hp1.below (au _ _).drew;have HB1:=aP ((jL hg1 H.out.vV H.out.bw).drew);have c4:w1.cell? ⟨4,0,none⟩=some (.iface 472 (.pointer (some (a 4)))):=hp1.gl.errs 4 (by decide);clear hp1 hg1
   go_wp2_with fail
   go_region_with (first|(go_at_call 193;refine(HPT.out _).mono ?_;rintro e w8 ⟨rfl,rfl⟩)|(go_at_call 112;refine(gD _ _ _).mono ?_;rintro e w8 ⟨rfl,rfl⟩))
   all_goals
    obtain⟨w2,hw2⟩:∃w2,w2=w1.drew:=⟨_,rfl⟩;rw[<-hw2];rw[<-hw2] at tC HB1;clear hw2 c4
    go_wp2_with fail
    refine(Dx.out _).mono ?_;rintro e w3 ⟨rfl,k3,hw3⟩
    have Ep:Hid (ig {p with vl:=Vi} a B w3 rb (xn:Nat) rest S (m+1)):=by rw[hw3];exact tC.out.below (bX (au _ _) k3)
    have HB3:Hid (Below B w w3):=by rw[hw3];exact bX HB1.out k3
    have d2:w3.cell? ⟨rb,2,none⟩=some (.pointer (some ⟨p.sb,0,none⟩)):=by rw[bZ Ep.out.row];rfl
    clear hw3 tC HB1
    go_wp2_with fail
    refine(HPR.out _).mono ?_;rintro e w4 ⟨rfl,rfl⟩
    go_wp2_with fail
    refine(Mh Ep.out hts).mono ?_;intro e w5 hend;have hend:=iL.from hend HB3.out;rw[<-HF.out] at hend
    cases e with
    |returned v=>
     have hv:v=.tuple #[]:=by
      unfold iL at hend
      split at hend
      ·obtain⟨⟨b,e,_⟩,_⟩:=hend;cases e
      have e:=hend.1;injection e
     subst hv;have FP:=aP hend;clear hend
     go_wp2_with fail
     go_end0
     exact FP.out
    |panicked c=>exact⟨rfl,hend⟩
    |outgrown=>
     unfold iL at hend
     split at hend
     ·obtain⟨⟨b,e,_⟩,_⟩:=hend;cases e
     have e:=hend.1;cases e
  |true=>
   rw[hp] at HPR HS;simp only[Bool.true_and,kW] at HS
   by_cases h1:fo xt=UE
   ·have HF:Hid (qV S xn xt rest=wh S xn TL rest):=by
     rw[HS.out,aD h1,<-Jy.out UE h1];rfl
    rw[h1] at Dx;clear HS;unfold UE at Dx
    go_enter Tryz.func114,Tryz.ntmps114
    go_wp2_with fail
    refine HT.out.mono ?_;rintro e w1 ⟨rfl,⟨Vi,hp1⟩,hg1⟩;have tC:Hid (ig {p with vl:=Vi} a B w1.drew rb (xn:Nat) rest S (m+1)):=hp1.below (au _ _).drew;have HB1:=aP ((jL hg1 H.out.vV H.out.bw).drew);have c4:w1.cell? ⟨4,0,none⟩=some (.iface 472 (.pointer (some (a 4)))):=hp1.gl.errs 4 (by decide);clear hp1 hg1
    go_wp2_with fail
    go_region_with (first|(go_at_call 193;refine(HPT.out _).mono ?_;rintro e w8 ⟨rfl,rfl⟩)|(go_at_call 112;refine(gD _ _ _).mono ?_;rintro e w8 ⟨rfl,rfl⟩))
    all_goals
     obtain⟨w2,hw2⟩:∃w2,w2=w1.drew:=⟨_,rfl⟩;rw[<-hw2];rw[<-hw2] at tC HB1;clear hw2 c4
     go_wp2_with fail
     refine(Dx.out _).mono ?_;rintro e w3 ⟨rfl,k3,hw3⟩
     have Ep:Hid (ig {p with vl:=Vi} a B w3 rb (xn:Nat) rest S (m+1)):=by rw[hw3];exact tC.out.below (bX (au _ _) k3)
     have HB3:Hid (Below B w w3):=by rw[hw3];exact bX HB1.out k3
     have d2:w3.cell? ⟨rb,2,none⟩=some (.pointer (some ⟨p.sb,0,none⟩)):=by rw[bZ Ep.out.row];rfl
     clear hw3 tC HB1
     go_wp2_with fail
     refine(HPR.out _).mono ?_;rintro e w4 ⟨rfl,rfl⟩
     go_wp2_with fail
     refine(QV Ep.out HTS.out).mono ?_;intro e w5 hend;have hend:=iL.from hend HB3.out;rw[<-HF.out] at hend
     cases e with
     |returned v=>
      have hv:v=.tuple #[]:=by
       unfold iL at hend
       split at hend
       ·obtain⟨⟨b,e,_⟩,_⟩:=hend;cases e
       have e:=hend.1;injection e
      subst hv;have FP:=aP hend;clear hend
      go_wp2_with fail
      go_end0
      exact FP.out
     |panicked c=>exact⟨rfl,hend⟩
     |outgrown=>
      unfold iL at hend
      split at hend
      ·obtain⟨⟨b,e,_⟩,_⟩:=hend;cases e
      have e:=hend.1;cases e
   rw[ax h1] at HS;have q1:((fo xt).toList==[114,117,108,101])=false:=wz h1
   by_cases h2:fo xt=Mc
   ·have HF:Hid (qV S xn xt rest=kV S xn TL rest):=by
     rw[HS.out,aD h2,<-Jy.out Mc h2];rfl
    rw[h2] at Dx;clear HS q1;unfold Mc at Dx
    go_enter Tryz.func114,Tryz.ntmps114
    go_wp2_with fail
    refine HT.out.mono ?_;rintro e w1 ⟨rfl,⟨Vi,hp1⟩,hg1⟩;have tC:Hid (ig {p with vl:=Vi} a B w1.drew rb (xn:Nat) rest S (m+1)):=hp1.below (au _ _).drew;have HB1:=aP ((jL hg1 H.out.vV H.out.bw).drew);have c4:w1.cell? ⟨4,0,none⟩=some (.iface 472 (.pointer (some (a 4)))):=hp1.gl.errs 4 (by decide);clear hp1 hg1
    go_wp2_with fail
    go_region_with (first|(go_at_call 193;refine(HPT.out _).mono ?_;rintro e w8 ⟨rfl,rfl⟩)|(go_at_call 112;refine(gD _ _ _).mono ?_;rintro e w8 ⟨rfl,rfl⟩))
    all_goals
     obtain⟨w2,hw2⟩:∃w2,w2=w1.drew:=⟨_,rfl⟩;rw[<-hw2];rw[<-hw2] at tC HB1;clear hw2 c4
     go_wp2_with fail
     refine(Dx.out _).mono ?_;rintro e w3 ⟨rfl,k3,hw3⟩
     have Ep:Hid (ig {p with vl:=Vi} a B w3 rb (xn:Nat) rest S (m+1)):=by rw[hw3];exact tC.out.below (bX (au _ _) k3)
     have HB3:Hid (Below B w w3):=by rw[hw3];exact bX HB1.out k3
     have d2:w3.cell? ⟨rb,2,none⟩=some (.pointer (some ⟨p.sb,0,none⟩)):=by rw[bZ Ep.out.row];rfl
     clear hw3 tC HB1
     go_wp2_with fail
     refine(HPR.out _).mono ?_;rintro e w4 ⟨rfl,rfl⟩
     go_wp2_with fail
     refine(hE _ _ _ _ _ _ _ _ _ _ Ep.out HTS.out).mono ?_;intro e w5 hend;have hend:=iL.from hend HB3.out;rw[<-HF.out] at hend
     cases e with
     |returned v=>
      have hv:v=.tuple #[]:=by
       unfold iL at hend
       split at hend
       ·obtain⟨⟨b,e,_⟩,_⟩:=hend;cases e
       have e:=hend.1;injection e
      subst hv;have FP:=aP hend;clear hend
      go_wp2_with fail
      go_end0
      exact FP.out
     |panicked c=>exact⟨rfl,hend⟩
     |outgrown=>
      unfold iL at hend
      split at hend
      ·obtain⟨⟨b,e,_⟩,_⟩:=hend;cases e
      have e:=hend.1;cases e
   rw[ax h2] at HS;have q2:((fo xt).toList==[98,117,105,108,100])=false:=wz h2
   by_cases h3:fo xt=Ce
   ·have HF:Hid (qV S xn xt rest=oh S xn TL rest):=by
     rw[HS.out,aD h3,<-Jy.out Ce h3];rfl
    rw[h3] at Dx;clear HS q1 q2;unfold Ce at Dx
    go_enter Tryz.func114,Tryz.ntmps114
    go_wp2_with fail
    refine HT.out.mono ?_;rintro e w1 ⟨rfl,⟨Vi,hp1⟩,hg1⟩;have tC:Hid (ig {p with vl:=Vi} a B w1.drew rb (xn:Nat) rest S (m+1)):=hp1.below (au _ _).drew;have HB1:=aP ((jL hg1 H.out.vV H.out.bw).drew);have c4:w1.cell? ⟨4,0,none⟩=some (.iface 472 (.pointer (some (a 4)))):=hp1.gl.errs 4 (by decide);clear hp1 hg1
    go_wp2_with fail
    go_region_with (first|(go_at_call 193;refine(HPT.out _).mono ?_;rintro e w8 ⟨rfl,rfl⟩)|(go_at_call 112;refine(gD _ _ _).mono ?_;rintro e w8 ⟨rfl,rfl⟩))
    all_goals
     obtain⟨w2,hw2⟩:∃w2,w2=w1.drew:=⟨_,rfl⟩;rw[<-hw2];rw[<-hw2] at tC HB1;clear hw2 c4
     go_wp2_with fail
     refine(Dx.out _).mono ?_;rintro e w3 ⟨rfl,k3,hw3⟩
     have Ep:Hid (ig {p with vl:=Vi} a B w3 rb (xn:Nat) rest S (m+1)):=by rw[hw3];exact tC.out.below (bX (au _ _) k3)
     have HB3:Hid (Below B w w3):=by rw[hw3];exact bX HB1.out k3
     have d2:w3.cell? ⟨rb,2,none⟩=some (.pointer (some ⟨p.sb,0,none⟩)):=by rw[bZ Ep.out.row];rfl
     clear hw3 tC HB1
     go_wp2_with fail
     refine(HPR.out _).mono ?_;rintro e w4 ⟨rfl,rfl⟩
     go_wp2_with fail
     refine(GD Ep.out HTS.out).mono ?_;intro e w5 hend;have hend:=iL.from hend HB3.out;rw[<-HF.out] at hend
     cases e with
     |returned v=>
      have hv:v=.tuple #[]:=by
       unfold iL at hend
       split at hend
       ·obtain⟨⟨b,e,_⟩,_⟩:=hend;cases e
       have e:=hend.1;injection e
      subst hv;have FP:=aP hend;clear hend
      go_wp2_with fail
      go_end0
      exact FP.out
     |panicked c=>exact⟨rfl,hend⟩
     |outgrown=>
      unfold iL at hend
      split at hend
      ·obtain⟨⟨b,e,_⟩,_⟩:=hend;cases e
      have e:=hend.1;cases e
   rw[ax h3] at HS;have q3:((fo xt).toList==[100,101,102,97,117,108,116])=false:=wz h3;have HF:=aP (HS.out);clear HS h1 h2 h3 Jy;generalize fo xt=HD at*
   go_enter Tryz.func114,Tryz.ntmps114
   go_wp2_with fail
   refine HT.out.mono ?_;rintro e w1 ⟨rfl,⟨Vi,hp1⟩,hg1⟩;have tC:Hid (ig {p with vl:=Vi} a B w1.drew rb (xn:Nat) rest S (m+1)):=hp1.below (au _ _).drew;have HB1:=aP ((jL hg1 H.out.vV H.out.bw).drew);have c4:w1.cell? ⟨4,0,none⟩=some (.iface 472 (.pointer (some (a 4)))):=hp1.gl.errs 4 (by decide);clear hp1 hg1
   go_wp2_with fail
   go_region_with (first|(go_at_call 193;refine(HPT.out _).mono ?_;rintro e w8 ⟨rfl,rfl⟩)|(go_at_call 112;refine(gD _ _ _).mono ?_;rintro e w8 ⟨rfl,rfl⟩))
   all_goals
    obtain⟨w2,hw2⟩:∃w2,w2=w1.drew:=⟨_,rfl⟩;rw[<-hw2];rw[<-hw2] at tC HB1;clear hw2 c4
    go_wp2_with fail
    refine(Dx.out _).mono ?_;rintro e w3 ⟨rfl,k3,hw3⟩
    have Ep:Hid (ig {p with vl:=Vi} a B w3 rb (xn:Nat) rest S (m+1)):=by rw[hw3];exact tC.out.below (bX (au _ _) k3)
    have HB3:Hid (Below B w w3):=by rw[hw3];exact bX HB1.out k3
    have d2:w3.cell? ⟨rb,2,none⟩=some (.pointer (some ⟨p.sb,0,none⟩)):=by rw[bZ Ep.out.row];rfl
    clear hw3 tC HB1
    go_wp2_with fail
    refine(HPR.out _).mono ?_;rintro e w4 ⟨rfl,rfl⟩
    go_wp2_with fail
    refine(Mh Ep.out hts).mono ?_;intro e w5 hend;have hend:=iL.from hend HB3.out;rw[<-HF.out] at hend
    cases e with
    |returned v=>
     have hv:v=.tuple #[]:=by
      unfold iL at hend
      split at hend
      ·obtain⟨⟨b,e,_⟩,_⟩:=hend;cases e
      have e:=hend.1;injection e
     subst hv;have FP:=aP hend;clear hend
     go_wp2_with fail
     go_end0
     exact FP.out
    |panicked c=>exact⟨rfl,hend⟩
    |outgrown=>
     unfold iL at hend
     split at hend
     ·obtain⟨⟨b,e,_⟩,_⟩:=hend;cases e
     have e:=hend.1;cases e
