import Derived.Test.YthhbpebihgjpjaaGreatDoorZ48
namespace Go.Proofs.YthhbpebihgjpjaaGreatDoor
set_option maxRecDepth 1000000
set_option maxHeartbeats 20000000
set_option linter.all false
section
open Go.RowKit Go.Maps
variable {w0 w:aj}{A:Nat->Nat}{a:Nat->Addr}{t:Nat->ah}{left fb wb:Nat}{r:bS}{v:KV}
theorem Zu(h:KW w0 A a t left fb wb r v w)(hn:(v.l 3).length=(v.l 4).length)(ya yb:Int)(ys yt:ah)(hs:ys.size<=140737488351232):
  Calls Tryz.prog 32 #[.pointer (some ⟨wb,0,none⟩),.agg #[.int .i64 1,.int .i64 ya,.int .i64 yb,.string ys,.string yt]] w (tV w0 A a t left fb wb v w):=by
 have HM0:=aY (wV.start h hn #[.int .i64 1,.int .i64 ya,.int .i64 yb,.string ys,.string yt]);have Rt:Hid (w.heap.size=w.heap.size):=rfl
 have o0:(w.alloc (.cells #[.int .i64 1,.int .i64 ya,.int .i64 yb,.string ys,.string yt] 58)).cell? ⟨w.heap.size,0,none⟩=some (.int .i64 1):=by rw[bZ HM0.out.op];rfl
 have o3:(w.alloc (.cells #[.int .i64 1,.int .i64 ya,.int .i64 yb,.string ys,.string yt] 58)).cell? ⟨w.heap.size,3,none⟩=some (.string ys):=by rw[bZ HM0.out.op];rfl
 have b1:=HM0.out.cells.b1;have f1:(w.alloc (.cells #[.int .i64 1,.int .i64 ya,.int .i64 yb,.string ys,.string yt] 58)).frozen? ⟨wb,1,none⟩=false:=iG HM0.out.kw.row;have HF:Hid (zF w0 A a t left fb wb r ⟨ys,v.v,v.l,v.vo⟩ w ((w.alloc (.cells #[.int .i64 1,.int .i64 ya,.int .i64 yb,.string ys,.string yt] 58)).setCell ⟨wb,1,none⟩ (.string ys))):=zF.after ((au _ _).alloc (ai _) _) (HM0.out.kw.cell (i:=1) (v':=⟨ys,v.v,v.l,v.vo⟩) (by rfl) ⟨rfl,rfl⟩ hs);have HN:=aY hn;clear h hn HM0
 go_enter Tryz.func32,Tryz.ntmps32
 go_wp2_with fail
 first|go_end0|refine bP (eG rfl _ _ _) rfl ?_
 exact⟨rfl,r,_,HF.out,HN.out,Af _ _,fB _⟩
theorem KL(h:KW w0 A a t (left+1) fb wb r v w)(hn:(v.l 3).length=(v.l 4).length)(ya yb:Int)(ys yt:ah)(hs:ys.size<=140737488351232)(ht:yt.size<=140737488351232)(hx:ys≠jJ):
  Calls Tryz.prog 32 #[.pointer (some ⟨wb,0,none⟩),.agg #[.int .i64 3,.int .i64 ya,.int .i64 yb,.string ys,.string yt]] w fun e w'=>e=.returned (.tuple #[])/\∃ob A' v',wV w0 A a t left fb wb v w ob #[.int .i64 3,.int .i64 ya,.int .i64 yb,.string ys,.string yt] 0 (eu r ys yt).2 A' v' w':=by
 have HM0:=aY (wV.start h hn #[.int .i64 3,.int .i64 ya,.int .i64 yb,.string ys,.string yt]);have Rt:Hid (w.heap.size=w.heap.size):=rfl
 have o0:(w.alloc (.cells #[.int .i64 3,.int .i64 ya,.int .i64 yb,.string ys,.string yt] 58)).cell? ⟨w.heap.size,0,none⟩=some (.int .i64 3):=by rw[bZ HM0.out.op];rfl
 have o3:(w.alloc (.cells #[.int .i64 3,.int .i64 ya,.int .i64 yb,.string ys,.string yt] 58)).cell? ⟨w.heap.size,3,none⟩=some (.string ys):=by rw[bZ HM0.out.op];rfl
 have q:(ys.toList==[46,108,111,103])=false:=by rw[show([46,108,111,103]:List UInt8)=jJ.toList by rw[dX];rfl,AR];exact bH hx
 clear h hn hx
 go_enter Tryz.func32,Tryz.ntmps32
 go_wp2_with fail
 generalize w.heap.size=ob at*;generalize w.alloc (.cells #[.int .i64 3,.int .i64 ya,.int .i64 yb,.string ys,.string yt] 58)=W1 at*;have NA:=aY (Wo (HM0.out.below (au W1.heap.size W1).drew).kw.base ys yt hs ht)
 have dJ:Hid (zJ fb wb ob ya yb ys yt v.x (v.v 2) (World.drew W1)):=(HM0.out).below (au _ _).drew|>.cells
 refine dB (S:=fun w'=>zJ fb wb ob ya yb ys yt v.x (v.v 2) w') (by kernel_rfl) ?_;change wpAnyH _ _ _ _ _ _ _ _ (World.drew _);refine u3 0 (.pointer (some ⟨wb,0,none⟩)) rfl dJ.out ?_<|u3 1 (.pointer (some ⟨wb,0,none⟩)) rfl dJ.out ?_<|u3 2 (.pointer (some ⟨wb,0,none⟩)) rfl dJ.out ?_<|u3 3 (.pointer (some ⟨fb,0,none⟩)) rfl dJ.out ?_<|u3 4 (.pointer (some ⟨ob,3,none⟩)) rfl dJ.out ?_<|u3 5 (.string ys) rfl dJ.out ?_<|u3 6 (.pointer (some ⟨ob,4,none⟩)) rfl dJ.out ?_<|u3 7 (.string yt) rfl dJ.out ?_ ?_;(iterate 8 ·exact⟨by kernel_rfl,kI,by rintro w' ⟨q0,q1,q2,q3,q4,q5,q6⟩;go_simp⟩)
 refine rH 8 rfl (by kernel_rfl) fun K hK=>?_
 go_simp;refine NA.out.mono ?_;rintro e2 w2 ⟨rfl,A2,hb2⟩;have HM2:=aY ((HM0.out.below (au W1.heap.size W1).drew).base hb2);refine hK.out _ _ HM2.out.cells (fun _=>?_);clear hK K hb2 NA dJ HM0;refine eF (by kernel_rfl) ?_ _
 go_wp2_with fail
 first|go_end0|refine bP (eG rfl _ _ _) rfl ?_
 exact⟨rfl,ob,A2,v,HM2.out⟩
theorem Tn(h:KW w0 A a t (left+1) fb wb r v w)(hn:(v.l 3).length=(v.l 4).length)(ya yb:Int)(ys yt:ah)(hs:ys.size<=140737488351232):
  Calls Tryz.prog 32 #[.pointer (some ⟨wb,0,none⟩),.agg #[.int .i64 4,.int .i64 ya,.int .i64 yb,.string ys,.string yt]] w (tV w0 A a t left fb wb v w):=by
 have HM0:=aY (wV.start h hn #[.int .i64 4,.int .i64 ya,.int .i64 yb,.string ys,.string yt]);have Rt:Hid (w.heap.size=w.heap.size):=rfl
 have o0:(w.alloc (.cells #[.int .i64 4,.int .i64 ya,.int .i64 yb,.string ys,.string yt] 58)).cell? ⟨w.heap.size,0,none⟩=some (.int .i64 4):=by rw[bZ HM0.out.op];rfl
 have o3:(w.alloc (.cells #[.int .i64 4,.int .i64 ya,.int .i64 yb,.string ys,.string yt] 58)).cell? ⟨w.heap.size,3,none⟩=some (.string ys):=by rw[bZ HM0.out.op];rfl
 clear h hn o3
 go_enter Tryz.func32,Tryz.ntmps32
 go_wp2_with fail
 generalize w.heap.size=ob at*;generalize w.alloc (.cells #[.int .i64 4,.int .i64 ya,.int .i64 yb,.string ys,.string yt] 58)=W1 at*;have NA:=aY (Tj (HM0.out.below (au W1.heap.size W1).drew).kw.base ys hs)
 have dJ:Hid (zJ fb wb ob ya yb ys yt v.x (v.v 2) (World.drew W1)):=(HM0.out).below (au _ _).drew|>.cells
 refine dB (S:=fun w'=>zJ fb wb ob ya yb ys yt v.x (v.v 2) w') (by kernel_rfl) ?_;change wpAnyH _ _ _ _ _ _ _ _ (World.drew _);refine u3 0 (.pointer (some ⟨wb,0,none⟩)) rfl dJ.out ?_<|u3 1 (.pointer (some ⟨wb,0,none⟩)) rfl dJ.out ?_<|u3 2 (.pointer (some ⟨wb,0,none⟩)) rfl dJ.out ?_<|u3 3 (.pointer (some ⟨fb,0,none⟩)) rfl dJ.out ?_<|u3 4 (.pointer (some ⟨ob,3,none⟩)) rfl dJ.out ?_<|u3 5 (.string ys) rfl dJ.out ?_ ?_;(iterate 6 ·exact⟨by kernel_rfl,kI,by rintro w' ⟨q0,q1,q2,q3,q4,q5,q6⟩;go_simp⟩)
 refine rH 6 rfl (by kernel_rfl) fun K hK=>?_
 go_simp;refine NA.out.mono ?_;rintro e2 w2 ⟨rfl,A2,hb2⟩;have HM2:=aY ((HM0.out.below (au W1.heap.size W1).drew).base hb2);refine hK.out _ _ HM2.out.cells (fun _=>?_);clear hK K hb2 NA dJ HM0;refine eF (by kernel_rfl) ?_ _
 go_wp2_with fail
 first|go_end0|refine bP (eG rfl _ _ _) rfl ?_
 exact HM2.out.done (ai _) (by decide)
theorem Wv(h:KW w0 A a t (left+1) fb wb r v w)(hn:(v.l 3).length=(v.l 4).length)(ya yb:Int)(ys yt:ah):
  Calls Tryz.prog 32 #[.pointer (some ⟨wb,0,none⟩),.agg #[.int .i64 6,.int .i64 ya,.int .i64 yb,.string ys,.string yt]] w (tV w0 A a t left fb wb v w):=by
 have HM0:=aY (wV.start h hn #[.int .i64 6,.int .i64 ya,.int .i64 yb,.string ys,.string yt]);have Rt:Hid (w.heap.size=w.heap.size):=rfl
 have o0:(w.alloc (.cells #[.int .i64 6,.int .i64 ya,.int .i64 yb,.string ys,.string yt] 58)).cell? ⟨w.heap.size,0,none⟩=some (.int .i64 6):=by rw[bZ HM0.out.op];rfl
 have o3:(w.alloc (.cells #[.int .i64 6,.int .i64 ya,.int .i64 yb,.string ys,.string yt] 58)).cell? ⟨w.heap.size,3,none⟩=some (.string ys):=by rw[bZ HM0.out.op];rfl
 clear h hn o3
 go_enter Tryz.func32,Tryz.ntmps32
 go_wp2_with fail
 generalize w.heap.size=ob at*;generalize w.alloc (.cells #[.int .i64 6,.int .i64 ya,.int .i64 yb,.string ys,.string yt] 58)=W1 at*;have NA:=aY (KH (HM0.out.below (au W1.heap.size W1).drew).kw.base ya yb)
 have dJ:Hid (zJ fb wb ob ya yb ys yt v.x (v.v 2) (World.drew W1)):=(HM0.out).below (au _ _).drew|>.cells
 refine dB (S:=fun w'=>zJ fb wb ob ya yb ys yt v.x (v.v 2) w') (by kernel_rfl) ?_;change wpAnyH _ _ _ _ _ _ _ _ (World.drew _);refine u3 0 (.pointer (some ⟨wb,0,none⟩)) rfl dJ.out ?_<|u3 1 (.pointer (some ⟨wb,0,none⟩)) rfl dJ.out ?_<|u3 2 (.pointer (some ⟨wb,0,none⟩)) rfl dJ.out ?_<|u3 3 (.pointer (some ⟨fb,0,none⟩)) rfl dJ.out ?_<|u3 4 (.pointer (some ⟨ob,1,none⟩)) rfl dJ.out ?_<|u3 5 (.int .i64 ya) rfl dJ.out ?_<|u3 6 (.pointer (some ⟨ob,2,none⟩)) rfl dJ.out ?_<|u3 7 (.int .i64 yb) rfl dJ.out ?_ ?_;(iterate 8 ·exact⟨by kernel_rfl,kI,by rintro w' ⟨q0,q1,q2,q3,q4,q5,q6⟩;go_simp⟩)
 refine rH 8 rfl (by kernel_rfl) fun K hK=>?_
 go_simp;refine NA.out.mono ?_;rintro e2 w2 ⟨rfl,A2,hb2⟩;have HM2:=aY ((HM0.out.below (au W1.heap.size W1).drew).base hb2);refine hK.out _ _ HM2.out.cells (fun _=>?_);clear hK K hb2 NA dJ HM0;refine eF (by kernel_rfl) ?_ _
 go_wp2_with fail
 first|go_end0|refine bP (eG rfl _ _ _) rfl ?_
 exact HM2.out.done (ai _) (by decide)
theorem Zt(h:KW w0 A a t (left+1) fb wb r v w)(hn:(v.l 3).length=(v.l 4).length)(ya yb:Int)(ys yt:ah):
  Calls Tryz.prog 32 #[.pointer (some ⟨wb,0,none⟩),.agg #[.int .i64 7,.int .i64 ya,.int .i64 yb,.string ys,.string yt]] w (tV w0 A a t left fb wb v w):=by
 have HM0:=aY (wV.start h hn #[.int .i64 7,.int .i64 ya,.int .i64 yb,.string ys,.string yt]);have Rt:Hid (w.heap.size=w.heap.size):=rfl
 have o0:(w.alloc (.cells #[.int .i64 7,.int .i64 ya,.int .i64 yb,.string ys,.string yt] 58)).cell? ⟨w.heap.size,0,none⟩=some (.int .i64 7):=by rw[bZ HM0.out.op];rfl
 have o3:(w.alloc (.cells #[.int .i64 7,.int .i64 ya,.int .i64 yb,.string ys,.string yt] 58)).cell? ⟨w.heap.size,3,none⟩=some (.string ys):=by rw[bZ HM0.out.op];rfl
 clear h hn o3
 go_enter Tryz.func32,Tryz.ntmps32
 go_wp2_with fail
 generalize w.heap.size=ob at*;generalize w.alloc (.cells #[.int .i64 7,.int .i64 ya,.int .i64 yb,.string ys,.string yt] 58)=W1 at*;have NA:=aY (Oj (HM0.out.below (au W1.heap.size W1).drew).kw.base ya)
 have dJ:Hid (zJ fb wb ob ya yb ys yt v.x (v.v 2) (World.drew W1)):=(HM0.out).below (au _ _).drew|>.cells
 refine dB (S:=fun w'=>zJ fb wb ob ya yb ys yt v.x (v.v 2) w') (by kernel_rfl) ?_;change wpAnyH _ _ _ _ _ _ _ _ (World.drew _);refine u3 0 (.pointer (some ⟨wb,0,none⟩)) rfl dJ.out ?_<|u3 1 (.pointer (some ⟨wb,0,none⟩)) rfl dJ.out ?_<|u3 2 (.pointer (some ⟨wb,0,none⟩)) rfl dJ.out ?_<|u3 3 (.pointer (some ⟨fb,0,none⟩)) rfl dJ.out ?_<|u3 4 (.pointer (some ⟨ob,1,none⟩)) rfl dJ.out ?_<|u3 5 (.int .i64 ya) rfl dJ.out ?_ ?_;(iterate 6 ·exact⟨by kernel_rfl,kI,by rintro w' ⟨q0,q1,q2,q3,q4,q5,q6⟩;go_simp⟩)
 refine rH 6 rfl (by kernel_rfl) fun K hK=>?_
 go_simp;refine NA.out.mono ?_;rintro e2 w2 ⟨rfl,A2,hb2⟩;have HM2:=aY ((HM0.out.below (au W1.heap.size W1).drew).base hb2);refine hK.out _ _ HM2.out.cells (fun _=>?_);clear hK K hb2 NA dJ HM0;refine eF (by kernel_rfl) ?_ _
 go_wp2_with fail
 first|go_end0|refine bP (eG rfl _ _ _) rfl ?_
 exact HM2.out.done (ai _) (by decide)
theorem Wu(h:KW w0 A a t (left+2000010) fb wb r v w)(hn:(v.l 3).length=(v.l 4).length)(hl:(v.l 4).length<=6000000000000)(htl:(v.l 2).length<=1048576)(ya yb:Int)(ys yt:ah):
  Calls Tryz.prog 32 #[.pointer (some ⟨wb,0,none⟩),.agg #[.int .i64 5,.int .i64 ya,.int .i64 yb,.string ys,.string yt]] w (tV w0 A a t left fb wb v w):=by
 have HM0:=aY (wV.start h hn #[.int .i64 5,.int .i64 ya,.int .i64 yb,.string ys,.string yt]);have Rt:Hid (w.heap.size=w.heap.size):=rfl
 have o0:(w.alloc (.cells #[.int .i64 5,.int .i64 ya,.int .i64 yb,.string ys,.string yt] 58)).cell? ⟨w.heap.size,0,none⟩=some (.int .i64 5):=by rw[bZ HM0.out.op];rfl
 have o3:(w.alloc (.cells #[.int .i64 5,.int .i64 ya,.int .i64 yb,.string ys,.string yt] 58)).cell? ⟨w.heap.size,3,none⟩=some (.string ys):=by rw[bZ HM0.out.op];rfl
 have HLT:=aP (aK hl htl);have uR:=aY (Oq HM0.out.kw hn (aA hl (by decide)));clear h hn o3 hl htl
 go_enter Tryz.func32,Tryz.ntmps32
 go_wp2_with fail
 generalize w.heap.size=ob at*;generalize w.alloc (.cells #[.int .i64 5,.int .i64 ya,.int .i64 yb,.string ys,.string yt] 58)=W1 at*;refine uR.out.mono ?_;intro e1 w1 he1;obtain⟨he,A1,v1,hm1⟩:=HM0.out.note he1;subst he;have HM1:=aY hm1;clear he1 hm1 uR HM0
 go_wp2_with fail
 have HPK:=aY (Zp ya w1.drew)
 have dJ:Hid (zJ fb wb ob ya yb ys yt v.x (v.v 2) (World.drew w1)):=(HM1.out).below (au _ _).drew|>.cells
 refine dB (S:=fun w'=>zJ fb wb ob ya yb ys yt v.x (v.v 2) w') (by kernel_rfl) ?_;change wpAnyH _ _ _ _ _ _ _ _ (World.drew _);refine u3 0 (.pointer (some ⟨wb,0,none⟩)) rfl dJ.out ?_<|u3 1 (.pointer (some ⟨wb,0,none⟩)) rfl dJ.out ?_<|u3 2 (.pointer (some ⟨wb,0,none⟩)) rfl dJ.out ?_<|u3 3 (.pointer (some ⟨fb,0,none⟩)) rfl dJ.out ?_<|u3 4 (.pointer (some ⟨ob,1,none⟩)) rfl dJ.out ?_<|u3 5 (.int .i64 ya) rfl dJ.out ?_ ?_;(iterate 6 ·exact⟨by kernel_rfl,kI,by rintro w' ⟨q0,q1,q2,q3,q4,q5,q6⟩;go_simp⟩)
 refine rH 6 rfl (by kernel_rfl) fun K hK=>?_
 go_simp;refine HPK.out.mono ?_;rintro e2 w2 ⟨fz,hfz,rfl,rfl⟩;refine hK.out _ _ dJ.out (fun _=>?_);clear hK K HPK;have Rn:=aY (Oi (left:=left+2000009) (HM1.out.below (au w1.heap.size w1).drew).kw.base fz hfz)
 refine rH 7 rfl (by kernel_rfl) fun K hK=>?_
 go_simp;refine Rn.out.mono ?_;rintro e3 w3 ⟨rfl,A3,hb3⟩;have HM3:=aY ((HM1.out.below (au w1.heap.size w1).drew).base hb3);refine hK.out _ _ HM3.out.cells (fun _=>?_);clear hK K hb3 Rn dJ HM1 hfz;refine eF (by kernel_rfl) ?_ _
 go_wp2_with fail
 have MH:=aY (HM3.out.below (au w3.heap.size w3).drew);have uM:=aY (Lc (left:=left+9) v.x (v.v 2) (v.l 2) MH.out.kw.base (by have h:=MH.out.kw.texts;rw[MH.out.vt,MH.out.ts] at h;exact h) (by rw[<-MH.out.x];exact MH.out.kw.text) HLT.out.2 (fun y hy=>aA (MH.out.kw.each y (by rw[MH.out.ts];exact hy)) (by decide)))
 have dJ:Hid (zJ fb wb ob ya yb ys yt v.x (v.v 2) (World.drew w3)):=(HM3.out).below (au _ _).drew|>.cells
 refine dB (S:=fun w'=>zJ fb wb ob ya yb ys yt v.x (v.v 2) w') (by kernel_rfl) ?_;change wpAnyH _ _ _ _ _ _ _ _ (World.drew _);refine u3 0 (.pointer (some ⟨wb,0,none⟩)) rfl dJ.out ?_<|u3 1 (.pointer (some ⟨wb,0,none⟩)) rfl dJ.out ?_<|u3 2 (.pointer (some ⟨wb,0,none⟩)) rfl dJ.out ?_<|u3 3 (.pointer (some ⟨fb,0,none⟩)) rfl dJ.out ?_<|u3 4 (.pointer (some ⟨wb,0,none⟩)) rfl dJ.out ?_<|u3 5 (.pointer (some ⟨wb,0,none⟩)) rfl dJ.out ?_<|u3 6 (.pointer (some ⟨wb,1,none⟩)) rfl dJ.out ?_<|u3 7 (.string v.x) rfl dJ.out ?_<|u3 8 (.pointer (some ⟨wb,0,none⟩)) rfl dJ.out ?_<|u3 9 (.pointer (some ⟨wb,0,none⟩)) rfl dJ.out ?_<|u3 10 (.pointer (some ⟨wb,2,none⟩)) rfl dJ.out ?_<|u3 11 (v.v 2) rfl dJ.out ?_ ?_;(iterate 12 ·exact⟨by kernel_rfl,kI,by rintro w' ⟨q0,q1,q2,q3,q4,q5,q6⟩;go_simp⟩)
 refine rH 12 rfl (by kernel_rfl) fun K hK=>?_
 go_simp;refine uM.out.mono ?_;rintro e4 w4 ⟨r1,r2,r3,r4,A4,rfl,_,_,hb4⟩;have qY:=aY (MH.out.base hb4);refine hK.out _ _ qY.out.cells (fun _=>?_);clear hK K hb4 uM dJ HM3 MH;refine eF (by kernel_rfl) ?_ _;have b0:=qY.out.cells.b0;have Rn:=aY (Oi (left:=left+8) qY.out.kw.base 0 (by decide))
 go_wp2_with fail
 refine Rn.out.mono ?_;rintro e5 w5 ⟨rfl,A5,hb5⟩;have Aa:=aY (qY.out.base hb5);clear hb5 Rn qY b0;have uR:=aY (Oq Aa.out.kw Aa.out.len (by have h1:=Aa.out.few;have h2:=HLT.out.1;omega))
 go_wp2_with fail
 refine uR.out.mono ?_;intro e6 w6 he6;obtain⟨he,A6,v6,Zj⟩:=Aa.out.note he6;subst he;have HM6:=aY Zj;clear he6 Zj uR Aa
 go_wp2_with fail
 first|go_end0|refine bP (eG rfl _ _ _) rfl ?_
 exact HM6.out.done (by omega) (by decide)
theorem Ww(h:KW w0 A a t (left+0) fb wb r v w)(hn:(v.l 3).length=(v.l 4).length)(kd:Int)(hk:kd<1\/7<kd)(ya yb:Int)(ys yt:ah):
  Calls Tryz.prog 32 #[.pointer (some ⟨wb,0,none⟩),.agg #[.int .i64 kd,.int .i64 ya,.int .i64 yb,.string ys,.string yt]] w (tV w0 A a t left fb wb v w):=by
 have HM0:=aY (wV.start h hn #[.int .i64 kd,.int .i64 ya,.int .i64 yb,.string ys,.string yt]);have Rt:Hid (w.heap.size=w.heap.size):=rfl
 have o0:(w.alloc (.cells #[.int .i64 kd,.int .i64 ya,.int .i64 yb,.string ys,.string yt] 58)).cell? ⟨w.heap.size,0,none⟩=some (.int .i64 kd):=by rw[bZ HM0.out.op];rfl
 have o3:(w.alloc (.cells #[.int .i64 kd,.int .i64 ya,.int .i64 yb,.string ys,.string yt] 58)).cell? ⟨w.heap.size,3,none⟩=some (.string ys):=by rw[bZ HM0.out.op];rfl
 clear h hn o3
 have k1:¬kd=1:=by omega
 have k2:¬kd=2:=by omega
 have k3:¬kd=3:=by omega
 have k4:¬kd=4:=by omega
 have k5:¬kd=5:=by omega
 have k6:¬kd=6:=by omega
 have k7:¬kd=7:=by omega
 clear hk
 go_enter Tryz.func32,Tryz.ntmps32
 go_wp2_with fail
 first|go_end0|refine bP (eG rfl _ _ _) rfl ?_
 exact HM0.out.done (ai _) (by decide)
theorem abK(h:KW w0 A a t (left+0) fb wb r v w)(hn:(v.l 3).length=(v.l 4).length)(ya yb:Int)(ys yt:ah)(hx:ys=jJ):
  Calls Tryz.prog 32 #[.pointer (some ⟨wb,0,none⟩),.agg #[.int .i64 3,.int .i64 ya,.int .i64 yb,.string ys,.string yt]] w (tV w0 A a t left fb wb v w):=by
 have HM0:=aY (wV.start h hn #[.int .i64 3,.int .i64 ya,.int .i64 yb,.string ys,.string yt]);have Rt:Hid (w.heap.size=w.heap.size):=rfl
 have o0:(w.alloc (.cells #[.int .i64 3,.int .i64 ya,.int .i64 yb,.string ys,.string yt] 58)).cell? ⟨w.heap.size,0,none⟩=some (.int .i64 3):=by rw[bZ HM0.out.op];rfl
 have o3:(w.alloc (.cells #[.int .i64 3,.int .i64 ya,.int .i64 yb,.string ys,.string yt] 58)).cell? ⟨w.heap.size,3,none⟩=some (.string ys):=by rw[bZ HM0.out.op];rfl
 have q:(ys.toList==[46,108,111,103])=true:=by rw[show([46,108,111,103]:List UInt8)=jJ.toList by rw[dX];rfl,AR];exact bN hx
 clear h hn hx
 go_enter Tryz.func32,Tryz.ntmps32
 go_wp2_with fail
 first|go_end0|refine bP (eG rfl _ _ _) rfl ?_
 exact HM0.out.done (ai _) (by decide)
theorem Tp(h:KW w0 A a t left fb wb r v w)(hn:(v.l 3).length=(v.l 4).length)(hl:(v.l 2).length<=1000000)(a2 b:Int)(s t2:ah)(hs:s.size<=140737488351232):
  Calls Tryz.prog 32 #[.pointer (some ⟨wb,0,none⟩),.agg #[.int .i64 2,.int .i64 a2,.int .i64 b,.string s,.string t2]] w (tV w0 A a t left fb wb v w):=by
 obtain⟨ti,HTI⟩:=iT (P:=Tryz.prog) (e:=9) (n:=1) (b:=16) (z:=(.string ⟨#[]⟩)) (by kernel_rfl);have h2:=h.own 2 (ai _) (by decide);obtain⟨MB,wF,hvt,_,_⟩:=bq h2;generalize hTL:(v.l 2).length=TL at*;have HV:=aP (aK hvt (aK hTL hn));clear hTL h2 hn;obtain⟨W1,hW1⟩:∃W1,W1=w.alloc (.cells #[.int .i64 2,.int .i64 a2,.int .i64 b,.string s,.string t2] 58):=⟨_,rfl⟩
 have HB1:Hid (Below w.heap.size w W1):=by rw[hW1];exact(au _ _).alloc (ai _) _
 have c0:W1.cell? ⟨w.heap.size,0,none⟩=some (.int .i64 2):=by rw[hW1];exact jq _ _ _ _ _ rfl
 have c3:W1.cell? ⟨w.heap.size,3,none⟩=some (.string s):=by rw[hW1];exact jq _ _ _ _ _ rfl
 have HH1:=aY (h.below HB1.out)
 have cs:W1.cell? ⟨wb,2,none⟩=some (.slice MB TL wF):=by rw[bZ HH1.out.row,<-hvt];rfl
 have hsz1:W1.heap.size=w.heap.size+1:=by rw[hW1];exact bJ _ _
 have csa:(W1.alloc (.cells #[.string s] 9)).cell? ⟨wb,2,none⟩=some (.slice MB TL wF):=(aB (w:=W1) (a:=⟨wb,2,none⟩) (aZ _ _ wb (bI HH1.out.row))).trans cs;clear h hvt
 go_enter Tryz.func32,Tryz.ntmps32
 go_wp2_with fail
 rw[<-hW1];clear hW1;refine jT (by kernel_rfl) ?_;change wpAny _ _ _ _ _ _ _ (World.drew _);refine uA 0 (.pointer (some ⟨wb,0,none⟩)) rfl ?_<|uA 1 (.pointer (some ⟨wb,0,none⟩)) rfl ?_<|uA 2 (.pointer (some ⟨wb,0,none⟩)) rfl ?_<|uA 3 (.pointer (some ⟨wb,2,none⟩)) rfl ?_<|uA 5 (.pointer (some ⟨w.heap.size,3,none⟩)) rfl ?_ ?_;(iterate 5 ·exact⟨by kernel_rfl,kI,by intro w;go_simp⟩)
 refine pA 4 6 rfl rfl (by kernel_rfl) (fun K hK=>?KY) fun K hK=>?KZ
 case' KY=>
  go_simp;refine hK _ _ ?_;clear hK K
  refine rA 6 rfl (by kernel_rfl) fun K hK=>?_
  go_simp;refine hK _ _ ?_;clear hK K
  refine rA 7 rfl (by kernel_rfl) fun K hK=>?_
  go_simp
 case' KZ=>
  go_simp;refine hK _ _ ?_;clear hK K
  refine pA 4 7 rfl rfl (by kernel_rfl) (fun K hK=>?QG) fun K hK=>?QH
  case' QG=>
   go_simp;refine hK _ _ ?_;clear hK K
   refine rA 7 rfl (by kernel_rfl) fun K hK=>?_
   go_simp
  case' QH=>
   go_simp;refine hK _ _ ?_;clear hK K
   refine rA 4 rfl (by kernel_rfl) fun K hK=>?_
   go_simp
 all_goals
  refine hK _ _ ?_;clear hK K;obtain⟨W8,Gq⟩:∃W8,W8=(W1.alloc (.cells #[.string s] 9)).drew:=⟨_,rfl⟩
  have Bb:Hid (Below W1.heap.size W1 W8):=by rw[Gq];exact((au _ _).alloc (ai _) _).drew
  have HN8:Hid (∀j u,([.string s]:List Value)[j]?=some u->W8.cell? ((⟨w.heap.size+1,0,none⟩:Addr).add j)=some u):=by rw[Gq,<-hsz1];exact iH W1 _ _
  rw[<-Gq];clear Gq csa;have H8:=HH1.out.below Bb.out
  have HD8:Hid (W8.ownsRow 0 9 1 (.slice MB TL wF) TL ((v.l 2).map Value.string)):=by have h:=H8.own 2 (ai _) (by decide);rw[HV.out.1,HV.out.2.1] at h;exact h
  refine rA 8 rfl (by kernel_rfl) fun K hK=>?_
  refine step_append_lies _ rfl (.tmp 19) (.tmp 22) 32 rfl 0 9 ti (.string ⟨#[]⟩) 1 16 Tryz.underlying32 HTI.out.1 HTI.out.2.2.2 HTI.out.2.1 HTI.out.2.2.1 rfl (by decide) _ TL ((v.l 2).map Value.string) rfl HD8.out ⟨w.heap.size+1,0,none⟩ 1 1 [.string s] rfl rfl HN8.out (by intro u hu;simp only[aV,dz,ko] at hu;subst hu;rfl) (by decide) (by unfold maxLen;omega) (by omega) (aN _) _ rfl ?_;intro g6 cap6 w6 hv6 hg6 hat6 hlt6;have hadd:=H8.add (i:=2) (x:=s) (g:=g6) (cap:=cap6) (w7:=w6) (ai _) (by decide) HV.out.2.1 (by rw[HV.out.1];exact hg6) (by rw[HV.out.1];exact hat6) hv6 (fun _=>hs);have d6:=hadd.1;rw[HV.out.1] at d6;have f6:=hadd.2.1
  have HFIN:Hid (tV w0 A a t left fb wb v w (.returned (.tuple #[])) (w6.setCell ⟨wb,2,none⟩ (.slice (some ⟨g6,0,none⟩) (TL+1) cap6))):=by
   refine⟨rfl,r,_,zF.after HB1.out (zF.after Bb.out hadd.2.2),HV.out.2.2,Af _ _,?_⟩;show(v.l 2++[s]).length<=_;rw[aF];exact dx rfl
  clear hv6 hg6 hat6 hlt6 H8 hadd;refine hK _ _ ?_;clear hK K;refine uA 9 (.pointer (some ⟨wb,0,none⟩)) rfl ?_<|uA 10 (.pointer (some ⟨wb,2,none⟩)) rfl ?_ ?_;(iterate 2 ·exact⟨by kernel_rfl,kI,by intro w;go_simp⟩)
  refine rA 11 rfl (by kernel_rfl) fun K hK=>?_
  go_simp;refine hK _ _ ?_;clear hK K;refine yP (by kernel_rfl) ?_ _
  go_wp2_with fail
  first|go_end0|refine bP (eG rfl _ _ _) rfl ?_
  exact HFIN.out
theorem abJ(h:KW w0 A a t (left+2000010) fb wb r v w)(hn:(v.l 3).length=(v.l 4).length)(hl:(v.l 4).length<=6000000000000)(htl:(v.l 2).length<=1000000)(kd ya yb:Int)(ys yt:ah)(hs:ys.size<=140737488351232)(ht:yt.size<=140737488351232):
  Calls Tryz.prog 32 #[.pointer (some ⟨wb,0,none⟩),.agg #[.int .i64 kd,.int .i64 ya,.int .i64 yb,.string ys,.string yt]] w (tV w0 A a t left fb wb v w):=by
 by_cases k0:kd<1\/7<kd
 ·exact Ww (left:=left) (h.less (by omega)) hn kd k0 ya yb ys yt
 obtain rfl|rfl|rfl|rfl|rfl|rfl|rfl:kd=1\/kd=2\/kd=3\/kd=4\/kd=5\/kd=6\/kd=7:=by omega
 ·exact Zu (h.less (by omega)) hn ya yb ys yt hs
 ·exact Tp (h.less (by omega)) hn htl ya yb ys yt hs
 ·by_cases hx:ys=jJ
  ·exact abK (left:=left) (h.less (by omega)) hn ya yb ys yt hx
  refine(KL (left:=left) (h.less (by omega)) hn ya yb ys yt hs ht hx).mono ?_;rintro e w' ⟨rfl,ob,A',v',hm⟩;exact hm.done (ai _) (by decide)
 ·exact Tn (h.less (by omega)) hn ya yb ys yt hs
 ·exact Wu h hn hl (by omega) ya yb ys yt
 ·exact Wv (h.less (by omega)) hn ya yb ys yt
 exact Zt (h.less (by omega)) hn ya yb ys yt
structure Ew(a:Nat->Addr)(t:Nat->ah)(w:aj):Prop where
 pO:uN a t w
 rounds:jw w
 gl:Gl a w
theorem Ew.keep{w':aj}(h:Ew a t w)(ht:aQ (fun k=>w.heap.size<=k) w w'):Ew a t w':=by
 have hg:∀k,k<14->w'.heap[k]?=w.heap[k]?:=fun k hk=>ht.block k (ay hk h.gl.size) (by have:=h.gl.size;omega)
 exact⟨h.pO.keep hg (fun k hk=>ht.block _ (iI (h.pO.text k hk)) (by have:=iI (h.pO.text k hk);omega)),h.rounds.keep hg,h.gl.keep ht.size hg⟩
variable {A':Nat->Nat}
theorem abM{w1:aj}{d:dQ}(h:Ew a t w)(hp:jc A' 1 0 fb d r w1)(hI:rV 0 r d)(hA:∀k,k<w.heap.size->A' k=0)(hb:Below w.heap.size w w1)(hl:left<=900000000000)(x:ah)(hx:x.size<=140737488351232):
  ∃A2,KW w A2 a t left fb w1.heap.size r ⟨x,fun _=>.slice none 0 0,fun _=>[],false⟩ (w1.alloc (.cells #[.pointer (some ⟨fb,0,none⟩),.string x,.slice none 0 0,.slice none 0 0,.slice none 0 0,.bool false] 34)):=by
 have hf:pY A' left fb r w1:=⟨0,d,by omega,hp,hI⟩
 have hz:∀k,k<w.heap.size->(if k<w1.heap.size/\A' k=1 then 1 else 0)=0:=fun k hk=>ax (fun q=>by have:=q.2;rw[hA k hk] at this;omega)
 have hg:∀k,k<14->w1.heap[k]?=w.heap[k]?:=fun k hk=>hb.block k (ay hk h.gl.size)
 have hB:nY (fun k=>if k<w1.heap.size/\A' k=1 then 1 else 0) a t left fb r w1:=by
  refine⟨⟨h.pO.keep hg (fun k hk=>hb.block _ (iI (h.pO.text k hk))),fun k hk=>hz k (ay hk h.gl.size),fun k hk=>hz _ (iI (h.pO.text k hk)),aA h.gl.size hb.size⟩,h.rounds.keep hg,h.gl.keep hb.size hg,hf.Yb (fun k hk=>⟨fun e=>aD ⟨hk,e⟩,fun e=>ax (fun q=>by have:=q.2;omega)⟩),fun k hk=>ax (fun q=>by have:=q.1;omega),fun k=>?_⟩;show(if k<w1.heap.size/\A' k=1 then 1 else 0)=0\/(if k<w1.heap.size/\A' k=1 then 1 else 0)=1\/9<=(if k<w1.heap.size/\A' k=1 then 1 else 0)
  split
  ·exact aL (aG rfl)
  exact aG rfl
 have hz2:∀k,k<w.heap.size->(fun k=>if k<w1.heap.size/\A' k=1 then 1 else 0) k=0:=hz;clear hz;generalize (fun k=>if k<w1.heap.size/\A' k=1 then 1 else 0)=A1 at hB hz2;have hal:Below w1.heap.size w1 (w1.alloc (.cells #[.pointer (some ⟨fb,0,none⟩),.string x,.slice none 0 0,.slice none 0 0,.slice none 0 0,.bool false] 34)):=(au _ _).alloc (ai _) _;have hsz:(w1.alloc (.cells #[.pointer (some ⟨fb,0,none⟩),.string x,.slice none 0 0,.slice none 0 0,.slice none 0 0,.bool false] 34)).heap.size=w1.heap.size+1:=bJ _ _;refine⟨fun k=>if k=w1.heap.size then 10 else A1 k,hB.turn hal.size (fun k hk=>ax (by omega)) (fun k hk _=>hal.block k hk) (fun k hk=>(ax (by omega)).trans (hB.above k (by omega))) (fun k hk=>?_),aW _ _ _ rfl,fun i _ _=>dD _ _ _ _,aD rfl,fun i _ _ k hk=>(by cases hk),(aQ.of_below _ (hb.trans (hal.mono hb.size))),fun k hk=>(ax (by have:=hb.size;omega)).trans (hz2 k hk),hx,(fun y hy=>by cases hy)⟩
 by_cases q:k=w1.heap.size
 ·exact aL (by show 9<=(if k=w1.heap.size then 10 else A1 k);rw[aD q];decide)
 exact aG ((ax q).trans (hB.above k hk))
def adi(a:Nat->Addr)(t:Nat->ah)(w:aj)(e:Ending)(w':aj):Prop:=∃fb wb A v r,e=.returned (.pointer (some ⟨wb,0,none⟩))/\KW w A a t 9999998 fb wb r v w'/\Up r/\(v.l 2).length<=32768
theorem Zq(a:Nat->Addr)(t:Nat->ah)(ao:Option Addr)(n cap:Nat)(w:aj)(hs:qF w ao n)(hn:n<=32768)(h:Ew a t w):
  Calls Tryz.prog 18 #[.slice ao n cap] w (adi a t w):=by
 have HS:=aY hs;have HG:=aY h;have Eu:=aY (TQ (fun _=>0) 1 0 w h.gl.size 65536)
 have n0:(n:Int)<=32768:=by omega
 clear hs h
 go_enter Tryz.func18,Tryz.ntmps18
 go_wp2_with fail
 refine Eu.out.mono ?_;rintro e1 w1 ⟨fb,A',rfl,hp,hA,_,hb1⟩;obtain⟨A2,hk⟩:=abM (left:=n*2000010+10000000) HG.out hp (rV.fresh 0 65536) hA hb1 (by omega) ⟨#[]⟩ (by decide);have Pq:Hid (∃A2 r,KW w A2 a t (n*2000010+10000000) fb w1.heap.size r ⟨⟨#[]⟩,fun _=>.slice none 0 0,fun _=>[],false⟩ (w1.alloc (.cells #[.pointer (some ⟨fb,0,none⟩),.string ⟨#[]⟩,.slice none 0 0,.slice none 0 0,.slice none 0 0,.bool false] 34))):=⟨A2,_,hk⟩;clear hk hp hA hb1 Eu
 go_wp2_with fail
 generalize w1.alloc (.cells #[.pointer (some ⟨fb,0,none⟩),.string ⟨#[]⟩,.slice none 0 0,.slice none 0 0,.slice none 0 0,.bool false] 34)=w2 at*;generalize w1.heap.size=wb at*
 go_loopw [4] (fun i wr=>∃(j:Nat) (A':Nat->Nat) (r:bS) (v:KV),i=.int .i64 j/\j<=n/\KW w A' a t ((n-j)*2000010+10000000) fb wb r v wr/\(v.l 3).length=(v.l 4).length/\(v.l 4).length<=j*2800000/\(v.l 2).length<=j) (fun i _=>n-(intOf i).toNat)
 case atStart=>
  obtain⟨A2,r,hk⟩:=Pq.out;exact⟨0,A2,r,_,rfl,aN _,hk,rfl,aN _,aN _⟩
 case round=>
  obtain⟨j,A',r,v,rfl,hj,hk,hl,hl4,hl2⟩:=hrel;have HK:=aY hk;have HL:=aP (aK hl (aK hl4 hl2))
  have b0:wr.cell? ⟨wb,0,none⟩=some (.pointer (some ⟨fb,0,none⟩)):=by rw[bZ hk.row];rfl
  have j0:(0:Int)<=(j:Int):=by omega
  clear hk hl hl4 hl2
  by_cases hlt:j<n
  ·have j1:(j:Int)<(n:Int):=by omega
   obtain⟨b,o,rfl,hop⟩:∃b o,ao=some ⟨b,o,none⟩/\∃y,tJ w y b (o+j*5):=by
    obtain⟨_,h|⟨b,o,e,h⟩⟩:=HS.out
    ·omega
    exact⟨b,o,e,h j hlt⟩
   obtain⟨y,hy0⟩:=hop;have hy:tJ wr y b (o+j*5):=hy0.later HK.out.bl.size (fun k hk=>HK.out.bl.block k hk (by omega));have c0:=hy.c0;have c1:=hy.c1;have c2:=hy.c2;have c3:=hy.c3;have c4:=hy.c4;have hsS:=hy.sS;have hsT:=hy.sT;clear hy hy0;obtain⟨kd,ya,yb,ys,yt⟩:=y;simp only at c0 c1 c2 c3 c4 hsS hsT;have RD:=aY (abJ (left:=(n-(j+1))*2000010+10000000) (HK.out.less (by omega)) HL.out.1 (by have:=HL.out.2.1;omega) (by have:=HL.out.2.2;omega) kd ya yb ys yt hsS hsT)
   go_wp2_with fail
   refine RD.out.mono ?_;rintro e w4 ⟨rfl,r4,v4,⟨A4,hk4,_,_⟩,h3,h4,h5⟩;have Bh:Hid (KW w A4 a t ((n-(j+1))*2000010+10000000) fb wb r4 v4 w4/\(v4.l 3).length=(v4.l 4).length/\(v4.l 4).length<=(j+1)*2800000/\(v4.l 2).length<=j+1):=⟨hk4,h3,by have:=HL.out.2.1;omega,by have:=HL.out.2.2;omega⟩;clear RD hk4 h3 h4 h5 c0 c1 c2 c3 c4 b0
   go_wp2
   exact⟨⟨j+1,A4,r4,v4,by go_num,by omega,Bh.out⟩,by simp[intOf];omega⟩
  obtain rfl:j=n:=by omega
  have HCR:=aY (KH (left:=10000000-1) (HK.out.less (by omega)).base 65536 (-1));clear Pq
  go_wp2_with fail
  refine HCR.out.mono ?_;rintro e5 w5 ⟨rfl,A5,hb5⟩;have HK5:=aY (HK.out.keep hb5.1 hb5.2.1 hb5.2.2)
  have b5:w5.cell? ⟨wb,0,none⟩=some (.pointer (some ⟨fb,0,none⟩)):=by rw[bZ HK5.out.row];rfl
  have CZ:=aY (Oj (left:=10000000-2) HK5.out.base 65536);clear HCR hb5 HK b0
  go_wp2_with fail
  refine CZ.out.mono ?_;rintro e6 w6 ⟨rfl,A6,hb6⟩;have HK6:=aY (HK5.out.keep hb6.1 hb6.2.1 hb6.2.2);clear CZ hb6 HK5 b5
  go_wp2_with fail
  go_ret;exact⟨fb,wb,A6,v,_,rfl,HK6.out,⟨rfl,rfl⟩,by have:=HL.out.2.2;omega⟩
theorem BP(l:List ah)(v1 v2:Value)(w:aj)(h1:bG w v1 l)(h2:bG w v2 l)(hs:l.length<=1099511627776):
  Calls Tryz.prog 23 #[v1,v2] w fun e w'=>e=.returned (.bool true)/\∃m,w'=w.drewN m:=by
 obtain⟨a1,c1,rfl,hc1,h1⟩:=h1;obtain⟨a2,c2,rfl,hc2,h2⟩:=h2;have H1:=aY h1;have H2:=aY h2
 have n0:(l.length:Int)<=1099511627776:=by omega
 clear h1 h2 hc1 hc2;generalize hL:l.length=L at*
 go_enter Tryz.func23,Tryz.ntmps23
 go_wp2
 go_loopw [5] (fun i wr=>∃j:Nat,i=.int .i64 j/\j<=L/\∃m,wr=w.drewN m) (fun i _=>L-(intOf i).toNat)
 case atStart=>exact⟨0,rfl,aN _,0,rfl⟩
 case round=>
  obtain⟨j,rfl,hle,m,rfl⟩:=hrel
  have i0:(0:Int)<=(j:Int):=by omega
  by_cases hlt:j<L
  ·obtain⟨x,hx⟩:∃x,l[j]?=some x:=⟨l[j]'(by omega),by simp⟩
   obtain⟨g1,o1,rfl,q1⟩:∃b o,a1=some ⟨b,o,none⟩/\∀k s,l[k]?=some s->w.cell? ⟨b,o+k,none⟩=some (.string s):=by
    rcases H1.out with e|e
    ·rw[e.2.1] at hx;simp at hx
    exact e
   obtain⟨g2,o2,rfl,q2⟩:∃b o,a2=some ⟨b,o,none⟩/\∀k s,l[k]?=some s->w.cell? ⟨b,o+k,none⟩=some (.string s):=by
    rcases H2.out with e|e
    ·rw[e.2.1] at hx;simp at hx
    exact e
   have r1:(w.drewN m).cell? ⟨g1,o1+j,none⟩=some (.string x):=q1 j x hx;have r2:(w.drewN m).cell? ⟨g2,o2+j,none⟩=some (.string x):=q2 j x hx
   have i1:(j:Int)<(L:Int):=by omega
   have hq:(x.toList==x.toList)=true:=IK _;clear q1 q2 hx
   go_wp2_with fail
   go_region_held3 (fun w'=>w'.cell? ⟨g1,o1+j,none⟩=some (.string x)/\w'.cell? ⟨g2,o2+j,none⟩=some (.string x)) (exact⟨r1,r2⟩) (fail)
   all_goals
    clear r1 r2;have hdw:(w.drewN m).drew=w.drewN (m+1):=rfl;rw[hdw];clear hdw
    try rw[hq]
    clear hq
    go_wp2
    refine⟨⟨j+1,by go_num,hlt,m+1,rfl⟩,by simp[intOf];omega⟩
  obtain rfl:j=L:=by omega
  go_wp2
  go_ret;exact⟨rfl,m,rfl⟩
def aaX(w:aj)(v:Value)(l:List bL):Prop:=∃ao cap,v=.slice ao l.length cap/\(l=[]\/∃b,ao=some ⟨b,0,none⟩/\∀(k:Nat) x,l[k]?=some x->w.cell? ⟨b,k*2,none⟩=some (.string x.1)/\w.cell? ⟨b,k*2+1,none⟩=some (.string x.2))
theorem Zr(l:List bL)(v1 v2:Value)(w:aj)(h1:aaX w v1 l)(h2:aaX w v2 l)(hs:l.length<=1099511627776):
  Calls Tryz.prog 22 #[v1,v2] w fun e w'=>e=.returned (.bool true)/\∃m,w'=w.drewN m:=by
 obtain⟨a1,c1,rfl,h1⟩:=h1;obtain⟨a2,c2,rfl,h2⟩:=h2;have H1:=aY h1;have H2:=aY h2
 have n0:(l.length:Int)<=1099511627776:=by omega
 clear h1 h2;generalize hL:l.length=L at*
 go_enter Tryz.func22,Tryz.ntmps22
 go_wp2
 go_loopw [5] (fun i wr=>∃j:Nat,i=.int .i64 j/\j<=L/\∃m,wr=w.drewN m) (fun i _=>L-(intOf i).toNat)
 case atStart=>exact⟨0,rfl,aN _,0,rfl⟩
 case round=>
  obtain⟨j,rfl,hle,m,rfl⟩:=hrel
  have i0:(0:Int)<=(j:Int):=by omega
  by_cases hlt:j<L
  ·obtain⟨x,hx⟩:∃x,l[j]?=some x:=⟨l[j]'(by omega),by simp⟩
   obtain⟨g1,rfl,q1⟩:∃b,a1=some ⟨b,0,none⟩/\∀(k:Nat) x,l[k]?=some x->w.cell? ⟨b,k*2,none⟩=some (.string x.1)/\w.cell? ⟨b,k*2+1,none⟩=some (.string x.2):=by
    rcases H1.out with e|e
    ·rw[e] at hx;simp at hx
    exact e
   obtain⟨g2,rfl,q2⟩:∃b,a2=some ⟨b,0,none⟩/\∀(k:Nat) x,l[k]?=some x->w.cell? ⟨b,k*2,none⟩=some (.string x.1)/\w.cell? ⟨b,k*2+1,none⟩=some (.string x.2):=by
    rcases H2.out with e|e
    ·rw[e] at hx;simp at hx
    exact e
   obtain⟨xn,xd⟩:=x;have r1:(w.drewN m).cell? ⟨g1,j*2,none⟩=some (.string xn):=(q1 j _ hx).1;have r2:(w.drewN m).cell? ⟨g1,j*2+1,none⟩=some (.string xd):=(q1 j _ hx).2;have r3:(w.drewN m).cell? ⟨g2,j*2,none⟩=some (.string xn):=(q2 j _ hx).1;have r4:(w.drewN m).cell? ⟨g2,j*2+1,none⟩=some (.string xd):=(q2 j _ hx).2
   have i1:(j:Int)<(L:Int):=by omega
   have hq:(xn.toList==xn.toList)=true:=IK _;have hq2:(xd.toList==xd.toList)=true:=IK _;clear q1 q2 hx
   go_wp2_with fail
   go_region_held3 (fun w'=>(w'.cell? ⟨g1,j*2,none⟩=some (.string xn)/\w'.cell? ⟨g1,j*2+1,none⟩=some (.string xd))/\w'.cell? ⟨g2,j*2,none⟩=some (.string xn)/\w'.cell? ⟨g2,j*2+1,none⟩=some (.string xd)) (exact⟨⟨r1,r2⟩,r3,r4⟩) (fail)
   all_goals
    clear r1 r2 r3 r4;have hdw:(w.drewN m).drew=w.drewN (m+1):=rfl;rw[hdw];clear hdw hq hq2
    go_wp2
    refine⟨⟨j+1,by go_num,hlt,m+1,rfl⟩,by simp[intOf];omega⟩
  obtain rfl:j=L:=by omega
  go_wp2
  go_ret;exact⟨rfl,m,rfl⟩
def Ii(x:bL):Bool:=!decide (x.1=jJ)&&!decide (x.1=fV)
def vP(r:bS)(l:List bL):List bL:=(l.filter Ii).map fun x=>(x.1,(dG r x.1).getD ⟨#[]⟩)
theorem Un{B:Nat}{v:Value}{l:List bL}(h:w.ownsRow B 77 2 v l.length (um l)):aaX w v l:=by
 obtain⟨ao,cap,rfl,_,hg⟩:=bq h;refine⟨ao,cap,rfl,?_⟩
 by_cases h0:l=[]
 ·exact aG h0
 obtain⟨g,rfl⟩:=hg (fZ.2 h0);exact aL ⟨g,rfl,fun k x hx=>⟨(dO h _ _ (Hr l k x hx).1).1,(dO h _ _ (Hr l k x hx).2).1⟩⟩
structure yA(A:Nat->Nat)(a:Nat->Addr)(t:Nat->ah)(left fb:Nat)(r:bS)(w:aj)(l:List bL)(v:Value)(A':Nat->Nat)(wr:aj):Prop where
 base:nY A' a t left fb r wr
 hA:∀k,k<w.heap.size->A' k=A k
 turns:aQ (fun k=>A k=1) w wr
 row:wr.ownsRow w.heap.size 77 2 v l.length (um l)
 col:∀k,v.ownBlock=some k->A' k=9
variable {wr w2:aj}
theorem yA.read{l:List bL}{v:Value}(h:yA A a t left fb r w l v A' wr)(hb:nW A' a t left fb r wr w2 A'):yA A a t left fb r w l v A' w2:=
 ⟨hb.1,h.hA,h.turns.trans hb.2.2 (fun k e=>by
  by_cases q:k<w.heap.size
  ·rw[h.hA k q] at e;exact aG e
  exact aL (by omega)),dL h.row (fun k hk=>hb.2.2.block k (bA h.row k hk).2 (by rw[h.col k hk];decide)),h.col⟩
theorem yA.below{l:List bL}{v:Value}(h:yA A a t left fb r w l v A' wr)(hb:Below wr.heap.size wr w2):yA A a t left fb r w l v A' w2:=h.read ⟨h.base.below hb,fun _ _=>rfl,aQ.of_below _ hb⟩
theorem yA.add{l:List bL}{v:Value}{g cap n:Nat}{x:bL}(h:yA A a t left fb r w l v A' wr)(hn:l.length=n)(hg:wr.grownBy w2 v.ownBlock)(hat:v.ownBlock=some g\/g=wr.heap.size)(hr:w2.ownsRow w.heap.size 77 2 (.slice (some ⟨g,0,none⟩) (n+1) cap) (n+1) (um l++[.string x.1,.string x.2])):∃A2,yA A a t left fb r w (l++[x]) (.slice (some ⟨g,0,none⟩) (n+1) cap) A2 w2/\∀k,k<wr.heap.size->A2 k=A' k:=by
 subst hn;have hgl:=(bA hr g rfl).2
 have hA2:∀k,k<wr.heap.size->(if k=g then 9 else A' k)=A' k:=fun k hk=>by
  by_cases q:k=g
  ·rw[aD q]
   rcases hat with e|e
   ·exact(h.col k (by rw[q];exact e)).symm
   omega
  exact ax q
 have hkp:∀k,k<wr.heap.size->A' k≠9->w2.heap[k]?=wr.heap[k]?:=fun k hk q=>hg.block k hk (fun e=>q (h.col k e.symm))
 have hsz:=h.turns.size;refine⟨fun k=>if k=g then 9 else A' k,⟨h.base.turn hg.size hA2 (fun k hk q=>hkp k hk (by omega)) (fun k hk=>(ax (by omega)).trans (h.base.above k (aA hg.size hk))) (fun k hk=>?_),fun k hk=>(hA2 k (by omega)).trans (h.hA k hk),⟨hg.os.trans h.turns.os,hg.output.trans h.turns.output,aA hsz hg.size,fun k hk q=>?_⟩,?_,fun k hk=>aD (ak hk).symm⟩,hA2⟩
 ·by_cases q:k=g
  ·exact aL (by show 9<=(if k=g then 9 else A' k);rw[aD q];decide)
  exact aG ((ax q).trans (h.base.above k hk))
 ·refine(hg.block k (by omega) (fun e=>?_)).trans (h.turns.block k hk q);have:=(bA h.row k e.symm).1;omega
 rw[aF,MX];exact hr
def aeZ(A:Nat->Nat)(a:Nat->Addr)(t:Nat->ah)(left fb:Nat)(r:bS)(w:aj)(e:Ending)(w':aj):Prop:=∃v A',e=.returned v/\yA A a t left fb r w (vP r r.seen) v A' w'
theorem Tk(h:KW w0 A a t left fb wb r v w):
  Calls Tryz.prog 20 #[.pointer (some ⟨wb,0,none⟩)] w (aeZ A a t left fb r w):=by
 obtain⟨ti,HTI⟩:=iT (P:=Tryz.prog) (e:=77) (n:=2) (b:=32) (z:=(.agg #[.string ⟨#[]⟩,.string ⟨#[]⟩])) (by kernel_rfl);have HK:Hid (A wb≠1/\wb<w.heap.size/\w.cell? ⟨wb,0,none⟩=some (.pointer (some ⟨fb,0,none⟩))):=⟨by rw[h.cw];decide,bI h.row,by rw[bZ h.row];rfl⟩;have c0:=HK.out.2.2;have Vo:=aY (KI h.base)
 have HI:Hid (qb r.seen/\totalBytes r.seen<=65536/\r.seen.length<=900000000000/\su r.seen):=by
  obtain⟨c,d,hc,_,hI⟩:=h.base.files;exact⟨hI.sorted,hI.total,by have:=hI.Jq;omega,hI.Cv⟩
 clear h
 go_enter Tryz.func20,Tryz.ntmps20
 go_wp2_with fail
 refine Vo.out.mono ?_;rintro e1 w1 ⟨g,hg,hgl,hg0,rfl,hcell,hbe⟩;have FT:Hid (yA A a t left fb r w [] (.slice none 0 0) A w1):=⟨hbe.1,fun _ _=>rfl,hbe.2.2,dD _ _ _ _,fun k hk=>(by cases hk)⟩;have HC:=aP (aK hgl (aK hg (aK hg0 hcell)));clear hg hgl hg0 hcell hbe Vo c0;generalize hF:r.seen.length=F at*;have HF:=aY hF;clear hF
 have f0:(F:Int)<=900000000000:=by have:=HI.out.2.2.1;omega
 go_wp2_with fail
 go_loopw [3,5] (fun V i wr=>∃(j:Nat) (A':Nat->Nat),i=.int .i64 j/\j<=F/\yA A a t left fb r w (vP r (r.seen.take j)) V A' wr/\A' g=0/\w1.heap.size<=wr.heap.size/\wr.heap[g]?=w1.heap[g]?) (fun _ i _=>F-(intOf i).toNat)
 case atStart=>exact⟨0,A,rfl,aN _,FT.out,HC.out.2.2.1,ai _,rfl⟩
 case round=>
  obtain⟨j,A',rfl,hj,hst,hg0,hsz,hgk⟩:=hrel;have HST:=aY hst;have Yq:=aP (aK hg0 (aK hsz hgk));obtain⟨MB,wF,hv,_,_⟩:=bq hst.row;subst hv;clear hst hg0 hsz hgk
  have j0:(0:Int)<=(j:Int):=by omega
  by_cases hlt:j<F
  ·have j1:(j:Int)<(F:Int):=by omega
   obtain⟨x,hx⟩:∃x,r.seen[j]?=some x:=⟨r.seen[j]'(by have:=HF.out;omega),by simp⟩
   have hxn:(r.seen.map (·.1))[j]?=some x.1:=by rw[dM,hx];rfl
   have CK:Hid ((vP r (r.seen.take j)).length<=900000000000):=by
    show _<=_;unfold vP;rw[jR];exact aA (pG _ _) (by rw[gV];omega)
   have Br:Hid (vP r (r.seen.take (j+1))=if Ii x=true then vP r (r.seen.take j)++[(x.1,(dG r x.1).getD ⟨#[]⟩)] else vP r (r.seen.take j)):=by
    show _=_;unfold vP;rw[dN,hx,xK,iC]
    by_cases q:Ii x=true
    ·rw[aD q,show List.filter Ii (some x).toList=[x] from yo q];rfl
    rw[ax q,show List.filter Ii (some x).toList=[] from yj q,CR,fF]
   have HXS:=aP (HI.out.2.2.2 x (aO hx))
   have dJ:Hid (wr.drew.cell? ⟨wb,0,none⟩=some (.pointer (some ⟨fb,0,none⟩))/\wr.drew.cell? ⟨g,j,none⟩=some (.string x.1)):=by
    refine⟨?_,?_⟩
    ·have h:wr.drew.heap[wb]?=w.heap[wb]?:=HST.out.turns.block wb HK.out.2.1 HK.out.1;rw[aB (w:=w) (a:=⟨wb,0,none⟩) h];exact HK.out.2.2
    have h:wr.drew.heap[g]?=w1.heap[g]?:=Yq.out.2.2;rw[aB (w:=w1) (a:=⟨g,j,none⟩) h];exact HC.out.2.2.2 j x.1 hxn
   have Yr:=aY (HST.out.below (au wr.heap.size wr).drew);have CO:=aY (xD Yr.out.base x.1 (by have:=HXS.out;omega));clear hx hxn;obtain⟨nm,d0⟩:=x;simp only at HXS dJ CO Br;generalize hD:(dG r nm).getD ⟨#[]⟩=D at*;generalize hE:(if (dG r nm).isSome=true then (0:Int) else 2)=E at*;generalize hL:(vP r (r.seen.take j)).length=LN at*;have HL:=aY hL;clear hL hD hE
   go_wp2_with fail
   refine dB (S:=fun w'=>w'.cell? ⟨wb,0,none⟩=some (.pointer (some ⟨fb,0,none⟩))/\w'.cell? ⟨g,j,none⟩=some (.string nm)) (by kernel_rfl) ?_;change wpAnyH _ _ _ _ _ _ _ _ (World.drew _);refine u3 0 (.pointer (some ⟨wb,0,none⟩)) rfl dJ.out ?_<|u3 1 (.pointer (some ⟨wb,0,none⟩)) rfl dJ.out ?_<|u3 2 (.pointer (some ⟨wb,0,none⟩)) rfl dJ.out ?_<|u3 3 (.pointer (some ⟨fb,0,none⟩)) rfl dJ.out ?_<|u3 4 (.slice (some ⟨g,0,none⟩) F F) rfl dJ.out ?_<|u3 5 (.int .i64 (j:Nat)) rfl dJ.out ?_<|u3 6 (.pointer (some ⟨g,j,none⟩)) rfl dJ.out ?_<|u3 7 (.string nm) rfl dJ.out ?_ ?_;(iterate 8 ·exact⟨by kernel_rfl,kI,by rintro w' ⟨q1,q2⟩;go_simp⟩)
   refine rH 8 rfl (by kernel_rfl) fun K hK=>?_
   go_simp;refine CO.out.mono ?_;rintro e5 w5 ⟨rfl,hb5⟩;have GV:=aY (Yr.out.read hb5);have HG5:Hid (w1.heap.size<=w5.heap.size/\w5.heap[g]?=w1.heap[g]?):=⟨aA Yq.out.2.1 hb5.2.2.size,(hb5.2.2.block g (ay HC.out.1 Yq.out.2.1) (by rw[Yq.out.1];decide)).trans Yq.out.2.2⟩
   have Je:Hid (w5.cell? ⟨wb,0,none⟩=some (.pointer (some ⟨fb,0,none⟩))/\w5.cell? ⟨g,j,none⟩=some (.string nm)):=by
    refine⟨?_,?_⟩
    ·rw[aB (w:=w) (a:=⟨wb,0,none⟩) (GV.out.turns.block wb HK.out.2.1 HK.out.1)];exact HK.out.2.2
    have h:w5.heap[g]?=wr.drew.heap[g]?:=HG5.out.2.trans Yq.out.2.2.symm;rw[aB (w:=wr.drew) (a:=⟨g,j,none⟩) h];exact dJ.out.2
   refine hK.out _ _ Je.out (fun _=>?_);clear hK K hb5 CO Yr dJ;have dJ:=Je;refine u3 9 (.tuple #[.string D,.int .i64 E]) rfl dJ.out ?_<|u3 10 (.string D) rfl dJ.out ?_<|u3 11 (.int .i64 E) rfl dJ.out ?_<|u3 12 (.string D) rfl dJ.out ?_ ?_;(iterate 4 ·exact⟨by kernel_rfl,kI,by rintro w' ⟨q1,q2⟩;go_simp⟩)
   refine rH 13 rfl (by kernel_rfl) fun K hK=>?_
   go_simp;refine hK.out _ _ dJ.out (fun _=>?_);clear hK K;refine eF (by kernel_rfl) ?_ _;have cn:=Je.out.2;clear Je dJ HST
   have t1:([46,108,111,103]:List UInt8)=jJ.toList:=by rw[dX];rfl
   have t2:([46,108,111,103,46,110,101,119]:List UInt8)=fV.toList:=by rw[dX];rfl
   by_cases x1:nm=jJ
   ·have y1:(nm.toList==[46,108,111,103])=true:=by rw[t1,AR];exact bN x1
    have Ba:Hid (vP r (r.seen.take (j+1))=vP r (r.seen.take j)):=by rw[Br.out,ax (by unfold Ii;rw[bN x1];exact eX)];rfl
    clear t1 t2 x1
    go_wp2_with fail
    exact⟨⟨j+1,A',by go_num,by omega,by rw[Ba.out];exact GV.out,Yq.out.1,HG5.out⟩,by simp[intOf];omega⟩
   have y1:(nm.toList==[46,108,111,103])=false:=by rw[t1,AR];exact bH x1
   by_cases x2:nm=fV
   ·have y2:(nm.toList==[46,108,111,103,46,110,101,119])=true:=by rw[t2,AR];exact bN x2
    have Ba:Hid (vP r (r.seen.take (j+1))=vP r (r.seen.take j)):=by rw[Br.out,ax (by unfold Ii;rw[bN x2,Bool.and_comm];exact eX)];rfl
    clear t1 t2 x1 x2
    go_wp2_with fail
    exact⟨⟨j+1,A',by go_num,by omega,by rw[Ba.out];exact GV.out,Yq.out.1,HG5.out⟩,by simp[intOf];omega⟩
   have y2:(nm.toList==[46,108,111,103,46,110,101,119])=false:=by rw[t2,AR];exact bH x2
   have Ba:Hid (vP r (r.seen.take (j+1))=vP r (r.seen.take j)++[(nm,D)]):=by rw[Br.out,aD (by unfold Ii;rw[bH x1,bH x2];rfl)];rfl
   clear t1 t2 x1 x2;have Ny:=aP (iH w5 [.string nm,.string D] 77);have IE:=aY (GV.out.below ((au w5.heap.size w5).alloc (ai _) (.cells #[.string nm,.string D] 77)))
   have CZ:Hid ((w5.alloc (.cells #[.string nm,.string D] 77)).ownsRow w.heap.size 77 2 (.slice MB LN wF) LN (um (vP r (r.seen.take j)))):=by have h:=IE.out.row;rw[HL.out] at h;exact h
   have hll:LN<=900000000000:=CK.out;have hws:w.heap.size<=(w5.alloc (.cells #[.string nm,.string D] 77)).heap.size:=IE.out.turns.size
   go_wp2_with (at_builtin;refine wpList_append_lies _ rfl (.tmp 43) (.tmp 50) 39 rfl w.heap.size 77 ti (.agg #[.string ⟨#[]⟩,.string ⟨#[]⟩]) 2 32 Tryz.underlying39 HTI.out.1 HTI.out.2.2.2 HTI.out.2.1 HTI.out.2.2.1 rfl (by decide) _ LN (um (vP r (r.seen.take j))) rfl CZ.out ⟨w5.heap.size,0,none⟩ 1 1 [.string nm,.string D] rfl rfl Ny.out (by intro u hu;simp only[aV,dz,ko] at hu;rcases hu with rfl|rfl<;>rfl) (by decide) (by unfold maxLen;omega) (by omega) (by exact hws) _ rfl ?_;intro g7 lS w7 hv7 wT rC xg;refine dI ?_)
   obtain⟨A7,hs7,ha7⟩:=IE.out.add (x:=(nm,D)) HL.out wT rC hv7
   have HS7:Hid (yA A a t left fb r w (vP r (r.seen.take (j+1))) (.slice (some ⟨g7,0,none⟩) (LN+1) lS) A7 w7/\A7 g=0/\w1.heap.size<=w7.heap.size/\w7.heap[g]?=w1.heap[g]?):=by
    have hg5:g<w5.heap.size:=ay HC.out.1 HG5.out.1;refine⟨by rw[Ba.out];exact hs7,?_,aA HG5.out.1 (aA (by rw[bJ];exact fB _) wT.size),?_⟩
    ·rw[ha7 g (by rw[bJ];omega)];exact Yq.out.1
    refine(wT.block g (by rw[bJ];omega) (fun e=>?_)).trans ((aZ _ _ g hg5).trans HG5.out.2);have:=IE.out.col g e.symm;rw[Yq.out.1] at this
    cases this
   clear hv7 wT rC xg hs7 ha7 CZ Ny IE hws;unfold Hid
   go_wp2_with fail
   exact⟨⟨j+1,A7,by go_num,by omega,HS7.out⟩,by simp[intOf];omega⟩
  obtain rfl:j=F:=by omega
  have Ba:Hid (yA A a t left fb r w (vP r r.seen) (.slice MB (vP r (r.seen.take j)).length wF) A' wr):=by
   have h:=HST.out;rw[bF (dx HF.out)] at h⊢;exact h
  generalize (vP r (r.seen.take j)).length=LN at*;clear HST
  go_wp2_with fail
  go_ret;exact⟨_,A',rfl,Ba.out⟩
end
theorem OA:eD jJ=true:=by decide
theorem OB:eD fV=true:=by decide
structure tQ(r:bS)(L:ku)(l:List gm):Prop where
 file:dG r jJ=some (jm++fP l)
 recs:∀x∈l,lN x/\eD x.name=true
 book:L=qM l
theorem SA:∀(l:List gm) (L:ku) (x:ah) (r:gm),(l.foldl iY L).last x=some r->r∈l\/L.last x=some r
 |[],L,x,r,h=>aL h
 |q::l,L,x,r,h=>by
  rcases SA l (iY L q) x r h with h|h
  ·exact aG (aU _ h)
  have h':(if x=q.name then some q else L.last x)=some r:=h
  split at h'
  ·exact aG (by rw[ak h'];exact aM ..)
  exact aL h'
variable {l:List gm}
theorem Zv{r:gm}(h:r∈jZ (qM l)):r∈l:=by
 obtain⟨x,_,hx⟩:=jo.1 h
 rcases SA l _ x r hx with h|h
 ·exact h
 cases h
variable {x:ah}
theorem vg(h:mH x=true):eD x=true/\x≠jJ/\x≠fV:=by
 unfold mH at h;rw[qW,qW] at h;exact⟨h.1.1,⟨(fun e=>by rw[bN e] at h;exact absurd h.1.2 (by decide)),(fun e=>by rw[bN e] at h;exact absurd h.2 (by decide))⟩⟩
variable {r:bS}
theorem Up.wr(h:Up r)(d:ah)(hx:eD x=true):eu r x d=(3,r)\/∃r',eu r x d=(0,r')/\Up r'/\∀y,dG r' y=if y=x then some d else dG r y:=by
 rw[h.write hx]
 split
 ·exact aG rfl
 exact aL ⟨_,rfl,⟨h.down,h.lit⟩,fun y=>Te r x d y _⟩
theorem Up.ap(h:Up r)(d:ah)(hx:eD x=true):kM r x d=(3,r)\/∃r',kM r x d=(0,r')/\Up r'/\∀y,dG r' y=if y=x then some ((dG r x).getD ⟨#[]⟩++d) else dG r y:=by
 rw[h.append hx]
 split
 ·exact aG rfl
 exact aL ⟨_,rfl,⟨h.down,h.lit⟩,fun y=>Qp r x d y _⟩
theorem Up.rn(h:Up r){z d:ah}(hx:eD x=true)(hz:eD z=true)(hd:dG r x=some d):∃r',jW r x z=(0,r')/\Up r'/\∀y,dG r' y=if y=z then some d else if y=x then none else dG r y:=by
 rw[h.rename hx hz,ax (fun e=>by unfold dG at hd;rw[aD e] at hd;cases hd)];exact⟨_,rfl,⟨h.down,h.lit⟩,fun y=>by have e:=Qq r x z y (r.wait++[⟨3,x,z⟩]);rw[hd] at e;exact e⟩
theorem Up.sy(h:Up r):∃r',iR r=(0,r')/\Up r'/\∀y,dG r' y=dG r y:=⟨_,h.sync,⟨h.down,h.lit⟩,fun _=>rfl⟩
variable {J:eZ}
theorem Ul(hu:Up J.r)(hL:J.L=qM l)(hr:∀x∈l,lN x/\eD x.name=true):(qz J).1=3\/∃r',qz J=(0,{J with r:=r',L:=qM (jZ J.L)})/\Up r'/\tQ r' (qM (jZ J.L)) (jZ J.L)/\∀y,y≠jJ->y≠fV->dG r' y=dG J.r y:=by
 unfold qz
 simp only
 rcases hu.wr (jm++fP (jZ J.L)) OB with h|⟨r1,h,hu1,hr1⟩
 ·left
  rw[h,aD (show(3:Int)≠0 by decide)]
 right
 obtain⟨r2,h2,hu2,hr2⟩:=hu1.sy
 have ht:dG r2 fV=some (jm++fP (jZ J.L)):=by rw[hr2,hr1,aD rfl]
 obtain⟨r3,h3,hu3,hr3⟩:=hu2.rn OB OA ht;obtain⟨r4,h4,hu4,hr4⟩:=hu3.sy;rw[h]
 simp only
 rw[h2,ax (fun e=>e rfl)]
 simp only
 rw[h3,ax (fun e=>e rfl)]
 simp only
 rw[h4,ax (fun e=>e rfl)];refine⟨r4,rfl,hu4,⟨?_,fun x hx=>hr x (Zv (by rw[<-hL];exact hx)),rfl⟩,fun y h1 h2=>?_⟩
 ·rw[hr4,hr3,aD rfl]
 rw[hr4,hr3,ax h1,ax h2,hr2,hr1,ax h2]
theorem Ph:∀(outs:List ah) (r:bS) (d:ah),Up r->(∀x∈outs,mH x=true)->(qK r outs d).1=3\/∃r',qK r outs d=(0,r')/\Up r'/\(∀y∈outs,dG r' y=some d)/\∀y,y∉outs->dG r' y=dG r y
 |[],r,d,hu,_=>aL ⟨r,rfl,hu,fun y hy=>(by cases hy),fun _ _=>rfl⟩
 |x::l,r,d,hu,hn=>by
  unfold qK
  rcases hu.wr d (vg (hn x (aM ..))).1 with h|⟨r1,h,hu1,hr1⟩
  ·left
   rw[h,ax (show¬(3:Int)=0 by decide)]
  rw[h,aD rfl]
  rcases Ph l r1 d hu1 (fun y hy=>hn y (aU _ hy)) with h|⟨r',h1,h2,h3,h4⟩
  ·exact aG h
  refine aL ⟨r',h1,h2,fun y hy=>?_,fun y hy=>?_⟩
  ·by_cases hl:y∈l
   ·exact h3 y hl
   rcases aV.1 hy with rfl|hy
   ·rw[h4 y hl,hr1,aD rfl]
   exact absurd hy hl
  rw[h4 y (fun q=>hy (aU _ q)),hr1,ax (fun e=>hy (by rw[e];exact aM ..))]
theorem Gp(sig sum:ah):∀(outs:List ah) (L:ku) (y:ah),(y∈outs->((nQ outs sig sum).foldl iY L).last y=some ⟨y,sig,sum⟩)/\(y∉outs->((nQ outs sig sum).foldl iY L).last y=L.last y)
 |[],L,y=>⟨fun h=>(by cases h),fun _=>rfl⟩
 |x::outs,L,y=>by
  have ih:=Gp sig sum outs (iY L ⟨x,sig,sum⟩) y;have hn:(iY L ⟨x,sig,sum⟩).last y=if y=x then some ⟨x,sig,sum⟩ else L.last y:=rfl;refine⟨fun h=>?_,fun h=>?_⟩
  ·by_cases hl:y∈outs
   ·exact ih.1 hl
   rcases aV.1 h with rfl|h
   ·exact(ih.2 hl).trans (hn.trans (aD rfl))
   exact absurd h hl
  exact(ih.2 (fun q=>h (aU _ q))).trans (hn.trans (ax (fun e=>h (by rw[e];exact aM ..))))
theorem adS{L:ku}(hu:Up r)(hL:tQ r L l){outs:List ah}(hn:∀x∈outs,mH x=true)(made:ah){sig:ah}(hs:sig.size=32):(vT r L outs made sig).1=3\/∃r',vT r L outs made sig=(0,r',(nQ outs sig (gM made)).foldl iY L)/\Up r'/\tQ r' ((nQ outs sig (gM made)).foldl iY L) (l++nQ outs sig (gM made))/\(∀y∈outs,dG r' y=some made)/\∀y,y∉outs->y≠jJ->dG r' y=dG r y:=by
 unfold vT
 simp only
 rcases Ph outs r made hu hn with h|⟨r1,h1,hu1,h3,h4⟩
 ·left
  rw[aD (by rw[h];decide)];exact h
 obtain⟨r2,h2,hu2,hr2⟩:=hu1.sy;rw[h1,ax (fun e=>e rfl)]
 simp only
 rw[h2,ax (fun e=>e rfl)]
 simp only
 have hno:jJ∉outs:=fun q=>(vg (hn _ q)).2.1 rfl
 rcases hu2.ap (fP (nQ outs sig (gM made))) OA with h|⟨r3,h5,hu3,hr3⟩
 ·left
  rw[h,aD (show(3:Int)≠0 by decide)]
 right
 obtain⟨r4,h6,hu4,hr4⟩:=hu3.sy;rw[h5,ax (fun e=>e rfl)]
 simp only
 rw[h6];refine⟨r4,rfl,hu4,⟨?_,fun x hx=>?_,?_⟩,fun y hy=>?_,fun y h1 h2=>?_⟩
 ·rw[hr4,hr3,aD rfl,hr2,h4 _ hno,hL.file,ZT,bY,dH]
 ·rcases bK.1 hx with hx|hx
  ·exact hL.recs x hx
  refine⟨Tf (fun y hy=>(fC (vg (hn y hy)).1).2.1) hs (kN _) x hx,?_⟩;obtain⟨y,hy,rfl⟩:=fH.1 hx;exact(vg (hn y hy)).1
 ·rw[hL.book];unfold qM;rw[yX]
 ·rw[hr4,hr3,ax (fun e=>hno (by rw[<-e];exact hy)),hr2,h3 y hy]
 rw[hr4,hr3,ax h2,hr2,h4 y h1]
variable {e:dm}
theorem Jj(cm:ah)(hu:Up J.r)(hL:tQ J.r J.L l)(hn:Ad e):(dS J e cm).1.2=3\/((dS J e cm).1.2=0/\(((dS J e cm).2=J/\(dS J e cm).1.1≠0)\/((dS J e cm).1.1=0/\∃r' L' l' made,(dS J e cm).2={J with r:=r',L:=L'}/\Up r'/\tQ r' L' l'/\(∀y∈e.outs,dG r' y=some made/\L'.last y=some ⟨y,DW (ic J.r (fK e)) e cm,gM made⟩)/\∀y,y∉e.outs->y≠jJ->dG r' y=dG J.r y/\L'.last y=J.L.last y))):=by
 unfold dS
 split
 ·exact aL ⟨rfl,aG ⟨rfl,show(3:Nat)≠0 by decide⟩⟩
 split
 ·exact aL ⟨rfl,aG ⟨rfl,show(2:Nat)≠0 by decide⟩⟩
 simp only
 split
 ·exact aL ⟨rfl,aG ⟨rfl,show(1:Nat)≠0 by decide⟩⟩
 split
 ·exact aL ⟨rfl,aG ⟨rfl,show(2:Nat)≠0 by decide⟩⟩
 rename_i made _
 rcases adS hu hL hn.1 made (sig:=DW (ic J.r (fK e)) e cm) (kN _) with h|⟨r',h1,h2,h3,h4,h5⟩
 ·exact aG h
 rw[h1];refine aL ⟨rfl,aL ⟨rfl,r',_,_,made,rfl,h2,h3,fun y hy=>⟨h4 y hy,(Gp _ _ _ _ y).1 hy⟩,fun y hy hl=>⟨h5 y hy hl,(Gp _ _ _ _ y).2 hy⟩⟩⟩
theorem JK{l:List ah}{f g:ah->Bool}(h:∀x∈l,f x=g x):l.all f=l.all g:=by
 induction l with
 |nil=>rfl
 |cons x l ih=>rw[Bc,Bc,h x (aM ..),ih (fun y hy=>h y (aU _ hy))]
theorem VN{K:eZ}{cm:ah}(hu:Up J.r)(hL:tQ J.r J.L l)(hn:Ad e)(h0:(dS J e cm).1.2=0)(hun:K.un=J.un)(aio:∀y∈dZ e,dG K.r y=dG J.r y)(hout:∀y∈e.outs,dG K.r y=dG (dS J e cm).2.r y/\K.L.last y=(dS J e cm).2.L.last y):dS K e cm=((if (dS J e cm).1.1=0 then 1 else (dS J e cm).1.1,0),K):=by
 have hi:∀y∈fK e,dG K.r y=dG J.r y:=fun y hy=>aio y (by unfold fK at hy;unfold dZ;rw[<-eH];exact fq _ hy)
 have e2:jE K.r (fK e)=jE J.r (fK e):=JK (fun y hy=>by rw[hi y hy]);have e3:jE K.r e.ord=jE J.r e.ord:=JK (fun y hy=>by rw[aio y (by unfold dZ;rw[<-eH];exact lQ _ hy)])
 have e4:ic K.r (fK e)=ic J.r (fK e):=by
  funext x
  unfold ic
  split
  ·rename_i hx
   exact hi x (mQ.1 hx)
  rfl
 have hE:=Jj cm hu hL hn
 have hsame:(dS J e cm).2=J->wN K.r K.L e.outs (DW (ic J.r (fK e)) e cm)=wN J.r J.L e.outs (DW (ic J.r (fK e)) e cm):=fun hq=>JK (fun y hy=>by
  unfold qJ
  rw[(hout y hy).1,(hout y hy).2,hq])
 unfold dS;rw[hun,e2,e3];simp only[e4];unfold dS at hE hsame h0;simp only at hE hsame h0
 by_cases c1:((dZ e).any fun x=>eT x J.un)=true
 ·rw[aD c1];rw[aD c1,ax (show¬(3:Nat)=0 by decide)]
 rw[ax c1] at hE hsame h0⊢;rw[ax c1]
 by_cases c2:(jE J.r (fK e)&&jE J.r e.ord)=false
 ·rw[aD c2,aD c2,ax (show¬(2:Nat)=0 by decide)]
 rw[ax c2] at hE hsame h0⊢;rw[ax c2]
 by_cases c3:wN J.r J.L e.outs (DW (ic J.r (fK e)) e cm)=true
 ·rw[aD c3] at hsame;rw[aD c3,hsame rfl,aD c3,ax (show¬(1:Nat)=0 by decide)]
 rw[ax c3] at hE hsame h0⊢
 cases hc:iU (pX (ic J.r (fK e)) (nP cm)) with
 |none=>
  rw[hc] at hsame;simp only at hsame⊢;rw[hsame trivial,ax c3,ax (show¬(2:Nat)=0 by decide)]
 |some made=>
  rw[hc] at hE h0;simp only at hE h0⊢
  rcases hE with h|⟨_,⟨_,h⟩|⟨_,r',L',l',made',h2,_,_,h5,_⟩⟩
  ·rw[h0] at h;cases h
  ·exact absurd rfl h
  refine(aD ?_).trans (by rw[aD trivial])
  have hJ:(dS J e cm).2={J with r:=r',L:=L'}:=by
   unfold dS;rw[ax c1,ax c2]
   simp only
   rw[ax c3,hc];exact h2
  refine qZ.2 (fun y hy=>?_);have h6:=hout y hy;rw[hJ] at h6;unfold qJ;rw[h6.1,h6.2]
  simp only
  rw[(h5 y hy).1,(h5 y hy).2]
  simp
def Rv:List (dm×ah)->Prop
 |[]=>True
 |x::l=>(∀y∈dZ x.1,y∉x.1.outs/\∀z∈l,y∉z.1.outs)/\(∀y∈x.1.outs,∀z∈l,y∉z.1.outs)/\Rv l
theorem Qr(J:eZ)(e:dm)(c:Nat):(lC J e c).r=J.r/\(lC J e c).L=J.L:=by
 unfold lC
 split<;>exact⟨rfl,rfl⟩
theorem NV{recs:List gm}(cm:ah)(hu:Up J.r)(hL:tQ J.r J.L recs)(hn:Ad e)(h0:(dS J e cm).1.2=0):Up (dS J e cm).2.r/\(∃Fx,tQ (dS J e cm).2.r (dS J e cm).2.L Fx)/\∀y,mH y=true->y∉e.outs->dG (dS J e cm).2.r y=dG J.r y/\(dS J e cm).2.L.last y=J.L.last y:=by
 rcases Jj cm hu hL hn with h|⟨_,⟨h,_⟩|⟨_,r',L',l',made,h,h1,h2,h3,h4⟩⟩
 ·rw[h0] at h;cases h
 ·rw[h];exact⟨hu,⟨_,hL⟩,fun _ _ _=>⟨rfl,rfl⟩⟩
 rw[h];exact⟨h1,⟨_,h2⟩,fun y hy ho=>h4 y ho (vg hy).2.1⟩
theorem Qv:∀(l:List (dm×ah)) (J:eZ) (recs:List gm),Up J.r->tQ J.r J.L recs->(∀x∈l,Ad x.1)->(jY J l).1=3\/((jY J l).1=0/\Up (jY J l).2.r/\(∃Fx,tQ (jY J l).2.r (jY J l).2.L Fx)/\∀y,mH y=true->(∀x∈l,y∉x.1.outs)->dG (jY J l).2.r y=dG J.r y/\(jY J l).2.L.last y=J.L.last y)
 |[],J,recs,hu,hL,_=>aL ⟨rfl,hu,⟨recs,hL⟩,fun _ _ _=>⟨rfl,rfl⟩⟩
 |x::l,J,recs,hu,hL,hn=>by
  have hx:=hn x (aM ..);unfold jY
  rcases Jj x.2 hu hL hx with h|⟨h0,_⟩
  ·left
   rw[ax (by rw[h];decide)];exact h
  rw[aD h0];obtain⟨g1,⟨Fx,g2⟩,g3⟩:=NV x.2 hu hL hx h0;have ht:=Qr (dS J x.1 x.2).2 x.1 (dS J x.1 x.2).1.1
  rcases Qv l (lC (dS J x.1 x.2).2 x.1 (dS J x.1 x.2).1.1) Fx (by rw[ht.1];exact g1) (by rw[ht.1,ht.2];exact g2) (fun y hy=>hn y (aU _ hy)) with h|⟨h1,h2,h3,h4⟩
  ·exact aG h
  refine aL ⟨h1,h2,h3,fun y hy ho=>?_⟩;have k1:=h4 y hy (fun z hz=>ho z (aU _ hz));have k2:=g3 y hy (ho x (aM ..));rw[ht.1,ht.2] at k1;exact⟨k1.1.trans k2.1,k1.2.trans k2.2⟩
theorem KQ:∀(l:List (dm×ah)) (J K:eZ) (recs:List gm),Up J.r->tQ J.r J.L recs->(∀x∈l,Ad x.1)->Rv l->(jY J l).1=0->K.un=J.un->(∀y,mH y=true->dG K.r y=dG (jY J l).2.r y)->(∀y,K.L.last y=(jY J l).2.L.last y)->K.fa=J.fa->K.bl=J.bl->K.cl.length=J.ran.length+J.cl.length->
  ∃K',jY K l=(0,K')/\K'.r=K.r/\K'.L=K.L/\K'.ran=K.ran/\K'.fa=(jY J l).2.fa/\K'.bl=(jY J l).2.bl/\K'.cl.length=(jY J l).2.ran.length+(jY J l).2.cl.length
 |[],J,K,_,_,_,_,_,_,_,_,_,h1,h2,h3=>⟨K,rfl,rfl,rfl,rfl,h1,h2,h3⟩
 |x::l,J,K,recs,hu,hL,hn,hA,h0,hun,hr,hl,h1,h2,h3=>by
  have hx:=hn x (aM ..)
  have hn':∀y∈l,Ad y.1:=fun y hy=>hn y (aU _ hy)
  unfold jY at h0 hr hl⊢
  by_cases c0:(dS J x.1 x.2).1.2=0
  ·rw[aD c0] at h0 hr hl;obtain⟨g1,⟨Fx,g2⟩,g3⟩:=NV x.2 hu hL hx c0;have ht:=Qr (dS J x.1 x.2).2 x.1 (dS J x.1 x.2).1.1
   have hu':Up (lC (dS J x.1 x.2).2 x.1 (dS J x.1 x.2).1.1).r:=by rw[ht.1];exact g1
   have hL':tQ (lC (dS J x.1 x.2).2 x.1 (dS J x.1 x.2).1.1).r (lC (dS J x.1 x.2).2 x.1 (dS J x.1 x.2).1.1).L Fx:=by rw[ht.1,ht.2];exact g2
   rcases Qv l _ Fx hu' hL' hn' with h|⟨_,_,_,h4⟩
   ·rw[h0] at h;cases h
   rw[ht.1,ht.2] at h4
   have hE:=VN (K:=K) hu hL hx c0 hun (fun y hy=>by
    have q:=hA.1 y hy
    rw[hr y (hx.2 y hy),(h4 y (hx.2 y hy) q.2).1,(g3 y (hx.2 y hy) q.1).1]) (fun y hy=>by
    have q:=h4 y (hx.1 y hy) (hA.2.1 y hy);rw[hr y (hx.1 y hy),hl,q.1,q.2]
    exact⟨rfl,rfl⟩)
   rw[hE,aD rfl,aD c0]
   simp only
   have hJ:(dS J x.1 x.2).2.un=J.un/\(dS J x.1 x.2).2.ran=J.ran/\(dS J x.1 x.2).2.cl=J.cl/\(dS J x.1 x.2).2.fa=J.fa/\(dS J x.1 x.2).2.bl=J.bl:=by
    rcases Jj x.2 hu hL hx with h|⟨_,⟨h,_⟩|⟨_,r',L',l',made,h,_⟩⟩
    ·rw[c0] at h;cases h
    ·rw[h];exact⟨rfl,rfl,rfl,rfl,rfl⟩
    rw[h];exact⟨rfl,rfl,rfl,rfl,rfl⟩
   have htk:=Qr K x.1 (if (dS J x.1 x.2).1.1=0 then 1 else (dS J x.1 x.2).1.1)
   have hlist:(lC K x.1 (if (dS J x.1 x.2).1.1=0 then 1 else (dS J x.1 x.2).1.1)).un=(lC (dS J x.1 x.2).2 x.1 (dS J x.1 x.2).1.1).un/\(lC K x.1 (if (dS J x.1 x.2).1.1=0 then 1 else (dS J x.1 x.2).1.1)).fa=(lC (dS J x.1 x.2).2 x.1 (dS J x.1 x.2).1.1).fa/\(lC K x.1 (if (dS J x.1 x.2).1.1=0 then 1 else (dS J x.1 x.2).1.1)).bl=(lC (dS J x.1 x.2).2 x.1 (dS J x.1 x.2).1.1).bl/\(lC K x.1 (if (dS J x.1 x.2).1.1=0 then 1 else (dS J x.1 x.2).1.1)).cl.length=(lC (dS J x.1 x.2).2 x.1 (dS J x.1 x.2).1.1).ran.length+(lC (dS J x.1 x.2).2 x.1 (dS J x.1 x.2).1.1).cl.length/\(lC K x.1 (if (dS J x.1 x.2).1.1=0 then 1 else (dS J x.1 x.2).1.1)).ran=K.ran:=by
    generalize (dS J x.1 x.2).1.1=c;generalize (dS J x.1 x.2).2=J1 at hJ;obtain⟨j1,j2,j3,j4,j5⟩:=hJ
    match c with
    |0=>simp[lC,hun,h1,h2,h3,j1,j2,j3,j4,j5];omega
    |1=>simp[lC,hun,h1,h2,h3,j1,j2,j3,j4,j5];omega
    |2=>simp[lC,hun,h1,h2,h3,j1,j2,j3,j4,j5]
    |c+3=>simp[lC,hun,h1,h2,h3,j1,j2,j3,j4,j5]
   obtain⟨K',k1,k2,k3,k4,k5⟩:=KQ l _ (lC K x.1 (if (dS J x.1 x.2).1.1=0 then 1 else (dS J x.1 x.2).1.1)) Fx hu' hL' hn' hA.2.2 h0 hlist.1 (fun y hy=>by rw[htk.1];exact hr y hy) (fun y=>by rw[htk.2];exact hl y) hlist.2.1 hlist.2.2.1 hlist.2.2.2.1;exact⟨K',k1,k2.trans htk.1,k3.trans htk.2,k4.trans hlist.2.2.2.2,k5⟩
  rw[ax c0] at h0;exact absurd h0 c0
theorem ad2(hu:Up r):(oN (oG r)).1=3\/∃r' L' l',oN (oG r)=(0,⟨r',L',[],[],[],[],[]⟩)/\Up r'/\tQ r' L' l':=by
 unfold oG oN
 simp only
 have hok:=Xd ((dG r jJ).getD ⟨#[]⟩)
 by_cases hq:(iq ((dG r jJ).getD ⟨#[]⟩)).2=true
 ·right
  rw[aD hq];refine⟨r,_,_,rfl,hu,⟨?_,hok,rfl⟩⟩;have h:=Uj (t:=(dG r jJ).getD ⟨#[]⟩) (l:=(iq ((dG r jJ).getD ⟨#[]⟩)).1) (by rw[<-hq])
  cases hj:dG r jJ with
  |none=>
   rw[hj] at h;have:=gW ByteArray.size h;rw[aH] at this;have h12:jm.size=12:=rfl;have h0:((none:Option ah).getD ⟨#[]⟩).size=0:=rfl;omega
  |some d=>
   rw[hj] at h;exact gW some h
 rw[ax hq]
 rcases Ul (J:=⟨r,qM (iq ((dG r jJ).getD ⟨#[]⟩)).1,[],[],[],[],[]⟩) hu rfl hok with h|⟨r',h,h1,h2,_⟩
 ·exact aG h
 exact aL ⟨r',_,_,h,h1,h2⟩
theorem YC(hu:Up r){l:List (dm×ah)}(hn:∀x∈l,Ad x.1)(hA:Rv l):(qI (oG r) l).1=3\/((qI (oG r) l).1=0/\∃K,qI ⟨(qI (oG r) l).2.r,ku.none,[],[],[],[],[]⟩ l=(0,K)/\K.r=(qI (oG r) l).2.r/\K.ran=[]/\K.cl.length=(qI (oG r) l).2.ran.length+(qI (oG r) l).2.cl.length/\K.fa=(qI (oG r) l).2.fa/\K.bl=(qI (oG r) l).2.bl):=by
 rcases ad2 hu with h|⟨r1,L1,l1,hO,hu1,hL1⟩
 ·left
  unfold qI;rw[ax (by rw[h];decide)];exact h
 rcases Qv l ⟨r1,L1,[],[],[],[],[]⟩ l1 hu1 hL1 hn with h|⟨h0,hu2,⟨l2,hL2⟩,_⟩
 ·left
  unfold qI;rw[hO,aD rfl,ax (by rw[h];decide)];exact h
 have hag:=KQ l ⟨r1,L1,[],[],[],[],[]⟩;have hJ2:∃J2,jY ⟨r1,L1,[],[],[],[],[]⟩ l=(0,J2):=⟨_,by rw[<-h0]⟩;obtain⟨J2,hJ2⟩:=hJ2;rw[hJ2] at hu2 hL2 hag;simp only at hu2 hL2 hag
 have key:∀r3 L3 l3,Up r3->tQ r3 L3 l3->(∀y,mH y=true->dG r3 y=dG J2.r y)->(∀y,L3.last y=J2.L.last y)->yE L3=false->∃K,qI ⟨r3,ku.none,[],[],[],[],[]⟩ l=(0,K)/\K.r=r3/\K.ran=[]/\K.cl.length=J2.ran.length+J2.cl.length/\K.fa=J2.fa/\K.bl=J2.bl:=by
  intro r3 L3 l3 hu3 hL3 hr3 hl3 hs3;obtain⟨K',k1,k2,k3,k4,k5,k6,k7⟩:=hag ⟨r3,L3,[],[],[],[],[]⟩ l1 hu1 hL1 hn hA trivial rfl hr3 hl3 rfl rfl rfl
  have hO3:oN ⟨r3,ku.none,[],[],[],[],[]⟩=(0,⟨r3,L3,[],[],[],[],[]⟩):=by
   unfold oN
   simp only
   rw[hL3.file,bY,QT l3 hL3.recs,aD rfl,hL3.book]
  refine⟨K',?_,k2,k4,k7,k5,k6⟩;unfold qI;rw[hO3,aD rfl]
  simp only
  rw[k1,aD rfl,ax (by rw[k3,hs3];decide)]
 have alu:qI (oG r) l=if yE J2.L=true then qz J2 else (0,J2):=by
  unfold qI;rw[hO,aD rfl]
  simp only
  rw[hJ2,aD rfl]
 rw[alu]
 by_cases hs:yE J2.L=true
 ·rw[aD hs]
  rcases Ul hu2 hL2.book hL2.recs with h|⟨r',h,h1,h2,h3⟩
  ·exact aG h
  right
  have hlk:wR J2.L:=by rw[hL2.book];exact adU _
  obtain⟨m1,m2,m3⟩:=WC hlk;rw[h];refine⟨rfl,key r' _ _ h1 h2 (fun y hy=>h3 y (vg hy).2.1 (vg hy).2.2) (fun y=>by rw[m1]) ?_⟩;unfold yE;rw[m2,m3];exact bH (by omega)
 rw[ax hs];exact aL ⟨rfl,key J2.r J2.L l2 hu2 hL2 (fun _ _=>rfl) (fun _=>rfl) (by simpa using hs)⟩
variable {es:List dm}{cs:List ah}
theorem Ea{ps:List Nat}{z:dm×ah}(h:z∈gX es cs ps):∃q∈ps,es[q]?=some z.1:=by
 obtain⟨q,hq,h⟩:=jo.1 h;obtain⟨e,he,h⟩:=rq.1 h;obtain⟨c,_,rfl⟩:=aX.1 h;exact⟨q,hq,he⟩
theorem WG(ho:(es.flatMap (·.outs)).Nodup){p:Nat}(he:es[p]?=some e)(hx:x∈e.outs):fE es x=some p:=by
 cases hm:fE es x with
 |none=>
  unfold fE at hm;have:=List.findIdx?_eq_none_iff.1 hm e (aO he);rw[mQ.2 hx] at this
  cases this
 |some q=>
  obtain⟨f,hf,hxf⟩:=WE hm;rw[Ec ho he hf hx hxf]
theorem EC{o:List Nat}(ho:(es.flatMap (·.outs)).Nodup)(hnd:o.Nodup)(hah:∀i p e,o[i]?=some p->es[p]?=some e->∀x∈dZ e,∀m,fE es x=some m->m∈o.take i):∀(suf pre:List Nat),o=pre++suf->Rv (gX es cs suf)
 |[],pre,_=>trivial
 |p::suf,pre,he=>by
  have ih:Rv (gX es cs suf):=EC ho hnd hah suf (pre++[p]) (by rw[he,eH];rfl)
  have hsplit:gX es cs (p::suf)=(((es[p]?).bind fun e=>(cs[p]?).map fun c=>(e,c)).toList)++gX es cs suf:=by
   unfold gX;rw[Ck]
   cases (es[p]?).bind fun e=>(cs[p]?).map fun c=>(e,c)<;>rfl
  rw[hsplit]
  cases hx:(es[p]?).bind fun e=>(cs[p]?).map fun c=>(e,c) with
  |none=>exact ih
  |some x=>
   obtain⟨e,hep,hx⟩:=rq.1 hx;obtain⟨c,_,rfl⟩:=aX.1 hx;rw[he,mX] at hnd;have hpn:=nk.1 hnd.2.1
   have hat:o[pre.length]?=some p:=by rw[he];simp
   have htk:o.take pre.length=pre:=by rw[he];simp
   have hmk:∀y∈dZ e,∀q,q∈p::suf->∀f,es[q]?=some f->y∉f.outs:=fun y hy q hq f hf hyf=>by
    have h1:=hah _ _ _ hat hep y hy q (WG ho hf hyf);rw[htk] at h1;exact hnd.2.2 q h1 q hq rfl
   refine⟨fun y hy=>⟨hmk y hy p (aM ..) e hep,fun z hz=>?_⟩,fun y hy z hz hyz=>?_,ih⟩
   ·obtain⟨q,hq,hf⟩:=Ea hz;exact hmk y hy q (aU _ hq) _ hf
   obtain⟨q,hq,hf⟩:=Ea hz;have:=Ec ho hep hf hy hyz;subst this;exact hpn.1 hq
theorem OZ(hu:Up r)(t:ah)(ts:List ah):(ou r t ts).1.1=3\/((ou r t ts).1.1≠0/\(ou r t ts).2.r=r)\/((ou r t ts).1.1=0/\∃K,ou (ou r t ts).2.r t ts=((0,-1),K)/\K.r=(ou r t ts).2.r/\K.ran=[]/\K.cl.length=(ou r t ts).2.ran.length+(ou r t ts).2.cl.length/\K.fa=(ou r t ts).2.fa/\K.bl=(ou r t ts).2.bl):=by
 unfold ou
 cases hp:jV t with
 |error bk=>exact aL (aG ⟨(show(BD bk.1:Nat)+1≠(0:Int) by omega),rfl⟩)
 |ok Sc=>
  obtain⟨S,cs⟩:=Sc
  simp only
  cases ho:wO S ts with
  |error b=>
   cases b
   ·exact aL (aG ⟨(show(8:Int)≠0 by decide),rfl⟩)
   exact aL (aG ⟨(show(9:Int)≠0 by decide),rfl⟩)
  |ok ps=>
   simp only
   have hok:=La ho;have hk:=zq hp;have hnm:=BR hp
   rcases YC hu (l:=gX S.bB cs ps) (fun x hx=>by
    obtain⟨q,_,hq⟩:=Ea hx
    exact hnm.1 _ (aO hq)) (EC hk.once hok.nd hok.ahead ps [] rfl) with h|⟨h,K,h1,h2⟩
   ·exact aG h
   refine aL (aL ⟨h,K,?_,h2⟩);have h1':=h1;unfold oG at h1'⊢;rw[h1']
def Fz(J:eZ):Nat:=J.ran.length+J.cl.length+J.fa.length+J.bl.length
theorem NW(J:eZ)(e:dm)(cm:ah):Fz (dS J e cm).2=Fz J:=by
 unfold dS
 split
 ·rfl
 split
 ·rfl
 simp only
 split
 ·rfl
 split<;>rfl
theorem aag(J:eZ)(e:dm)(c:Nat):Fz (lC J e c)=Fz J+1:=by
 unfold lC Fz
 split<;>simp only[aF,aS,dR]<;>omega
theorem Ov:∀(l:List (dm×ah)) (J:eZ),Fz (jY J l).2<=Fz J+l.length
 |[],J=>ai _
 |x::l,J=>by
  unfold jY
  split
  ·have h:=Ov l (lC (dS J x.1 x.2).2 x.1 (dS J x.1 x.2).1.1);rw[aag,NW] at h;rw[aS];omega
  rw[NW];omega
theorem LB(J:eZ):Fz (qz J).2=Fz J:=by
 unfold qz
 simp only
 split
 ·rfl
 split
 ·rfl
 split<;>rfl
theorem ZI(J:eZ):Fz (oN J).2=Fz J:=by
 unfold oN
 simp only
 split
 ·rfl
 exact LB _
theorem aej(r:bS)(t:ah)(ts:List ah):Fz (ou r t ts).2<=64:=by
 unfold ou
 cases hp:jV t with
 |error bk=>exact aN _
 |ok Sc=>
  obtain⟨S,cs⟩:=Sc
  simp only
  cases ho:wO S ts with
  |error b=>cases b<;>exact aN _
  |ok ps=>
   simp only
   have hok:=La ho;have h64:=(BR hp).2;have hl:(gX S.bB cs ps).length<=64:=aA (wW _ _) (aA (ZK hok.nd hok.lt) h64);have h0:Fz (oN (oG r)).2=0:=ZI _;have h1:=Ov (gX S.bB cs ps) (oN (oG r)).2;unfold qI
   split
   ·split
    ·split
     ·rw[LB];omega
     omega
    omega
   omega
