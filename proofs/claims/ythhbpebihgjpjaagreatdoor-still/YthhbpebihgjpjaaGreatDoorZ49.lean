import Derived.Test.YthhbpebihgjpjaaGreatDoorZ48
namespace Go.Proofs.YthhbpebihgjpjaaGreatDoor
set_option maxRecDepth 1000000
set_option maxHeartbeats 20000000
set_option linter.all false
section
open Go.RowKit Go.Maps
variable {w0 w:ak}{A:Nat->Nat}{a:Nat->Addr}{t:Nat->ah}{left fb wb:Nat}{r:bY}{v:KV}
theorem Zv(h:KW w0 A a t left fb wb r v w)(hn:(v.l 3).length=(v.l 4).length)(ya yb:Int)(ys yt:ah)(hs:ys.size<=140737488351232):
  Calls Tryz.prog 32 #[.pointer (some ⟨wb,0,none⟩),.agg #[.int .i64 1,.int .i64 ya,.int .i64 yb,.string ys,.string yt]] w (tZ w0 A a t left fb wb v w):=by
 have HM0:=bB (wY.start h hn #[.int .i64 1,.int .i64 ya,.int .i64 yb,.string ys,.string yt]);have Rv:Hid (w.heap.size=w.heap.size):=rfl
 have o0:(w.alloc (.cells #[.int .i64 1,.int .i64 ya,.int .i64 yb,.string ys,.string yt] 58)).cell? ⟨w.heap.size,0,none⟩=some (.int .i64 1):=by rw[aj _ _ _ _ _ _ HM0.out.op];rfl
 have o3:(w.alloc (.cells #[.int .i64 1,.int .i64 ya,.int .i64 yb,.string ys,.string yt] 58)).cell? ⟨w.heap.size,3,none⟩=some (.string ys):=by rw[aj _ _ _ _ _ _ HM0.out.op];rfl
 have b1:=HM0.out.cells.b1;have f1:(w.alloc (.cells #[.int .i64 1,.int .i64 ya,.int .i64 yb,.string ys,.string yt] 58)).frozen? ⟨wb,1,none⟩=false:=aD _ _ _ _ _ HM0.out.kw.row;have HF:Hid (zH w0 A a t left fb wb r ⟨ys,v.v,v.l,v.vo⟩ w ((w.alloc (.cells #[.int .i64 1,.int .i64 ya,.int .i64 yb,.string ys,.string yt] 58)).setCell ⟨wb,1,none⟩ (.string ys))):=zH.after ((ay _ _).alloc (ai _) _) (HM0.out.kw.cell (i:=1) (v':=⟨ys,v.v,v.l,v.vo⟩) rFL ⟨rfl,rfl⟩ hs);have HN:=bB hn;clear h hn HM0
 go_enter Tryz.func32,Tryz.ntmps32
 go_wp2_with fail
 first|go_end0|refine bV (eY rfl _ _ _) rfl ?_
 exact⟨rfl,r,_,HF.out,HN.out,Ah _ _,fH _⟩
theorem KL(h:KW w0 A a t (left+1) fb wb r v w)(hn:(v.l 3).length=(v.l 4).length)(ya yb:Int)(ys yt:ah)(hs:ys.size<=140737488351232)(ht:yt.size<=140737488351232)(hx:ys≠jO):
  Calls Tryz.prog 32 #[.pointer (some ⟨wb,0,none⟩),.agg #[.int .i64 3,.int .i64 ya,.int .i64 yb,.string ys,.string yt]] w fun e w'=>e=.returned (.tuple #[])/\∃ob A' v',wY w0 A a t left fb wb v w ob #[.int .i64 3,.int .i64 ya,.int .i64 yb,.string ys,.string yt] 0 (eP r ys yt).2 A' v' w':=by
 have HM0:=bB (wY.start h hn #[.int .i64 3,.int .i64 ya,.int .i64 yb,.string ys,.string yt]);have Rv:Hid (w.heap.size=w.heap.size):=rfl
 have o0:(w.alloc (.cells #[.int .i64 3,.int .i64 ya,.int .i64 yb,.string ys,.string yt] 58)).cell? ⟨w.heap.size,0,none⟩=some (.int .i64 3):=by rw[aj _ _ _ _ _ _ HM0.out.op];rfl
 have o3:(w.alloc (.cells #[.int .i64 3,.int .i64 ya,.int .i64 yb,.string ys,.string yt] 58)).cell? ⟨w.heap.size,3,none⟩=some (.string ys):=by rw[aj _ _ _ _ _ _ HM0.out.op];rfl
 have q:(ys.toList==[46,108,111,103])=false:=by rw[show([46,108,111,103]:List UInt8)=jO.toList by rw[eG];rfl,AV];exact bM hx
 clear h hn hx
 go_enter Tryz.func32,Tryz.ntmps32
 go_wp2_with fail
 generalize w.heap.size=ob at*;generalize w.alloc (.cells #[.int .i64 3,.int .i64 ya,.int .i64 yb,.string ys,.string yt] 58)=W1 at*;have ND:=bB (Wp (HM0.out.below (ay W1.heap.size W1).drew).kw.base ys yt hs ht)
 have dP:Hid (zL fb wb ob ya yb ys yt v.x (v.v 2) (World.drew W1)):=(HM0.out).below (ay _ _).drew|>.cells
 refine dJ (S:=fun w'=>zL fb wb ob ya yb ys yt v.x (v.v 2) w') dD ?_;change wpAnyH _ _ _ _ _ _ _ _ (World.drew _);refine u3 0 (.pointer (some ⟨wb,0,none⟩)) rfl dP.out<|u3 1 (.pointer (some ⟨wb,0,none⟩)) rfl dP.out<|u3 2 (.pointer (some ⟨wb,0,none⟩)) rfl dP.out<|u3 3 (.pointer (some ⟨fb,0,none⟩)) rfl dP.out<|u3 4 (.pointer (some ⟨ob,3,none⟩)) rfl dP.out<|u3 5 (.string ys) rfl dP.out<|u3 6 (.pointer (some ⟨ob,4,none⟩)) rfl dP.out<|u3 7 (.string yt) rfl dP.out ?_
 refine rH 8 rfl fun K hK=>?_
 go_simp;refine ND.out.mono ?_;rintro e2 w2 ⟨rfl,A2,hb2⟩;have HM2:=bB ((HM0.out.below (ay W1.heap.size W1).drew).base hb2);refine hK.out _ _ HM2.out.cells (fun _=>?_);clear hK K hb2 ND dP HM0;refine eX dD ?_ _
 go_wp2_with fail
 first|go_end0|refine bV (eY rfl _ _ _) rfl ?_
 exact⟨rfl,ob,A2,v,HM2.out⟩
theorem Tv(h:KW w0 A a t (left+1) fb wb r v w)(hn:(v.l 3).length=(v.l 4).length)(ya yb:Int)(ys yt:ah)(hs:ys.size<=140737488351232):
  Calls Tryz.prog 32 #[.pointer (some ⟨wb,0,none⟩),.agg #[.int .i64 4,.int .i64 ya,.int .i64 yb,.string ys,.string yt]] w (tZ w0 A a t left fb wb v w):=by
 have HM0:=bB (wY.start h hn #[.int .i64 4,.int .i64 ya,.int .i64 yb,.string ys,.string yt]);have Rv:Hid (w.heap.size=w.heap.size):=rfl
 have o0:(w.alloc (.cells #[.int .i64 4,.int .i64 ya,.int .i64 yb,.string ys,.string yt] 58)).cell? ⟨w.heap.size,0,none⟩=some (.int .i64 4):=by rw[aj _ _ _ _ _ _ HM0.out.op];rfl
 have o3:(w.alloc (.cells #[.int .i64 4,.int .i64 ya,.int .i64 yb,.string ys,.string yt] 58)).cell? ⟨w.heap.size,3,none⟩=some (.string ys):=by rw[aj _ _ _ _ _ _ HM0.out.op];rfl
 clear h hn o3
 go_enter Tryz.func32,Tryz.ntmps32
 go_wp2_with fail
 generalize w.heap.size=ob at*;generalize w.alloc (.cells #[.int .i64 4,.int .i64 ya,.int .i64 yb,.string ys,.string yt] 58)=W1 at*;have ND:=bB (Tn (HM0.out.below (ay W1.heap.size W1).drew).kw.base ys hs)
 have dP:Hid (zL fb wb ob ya yb ys yt v.x (v.v 2) (World.drew W1)):=(HM0.out).below (ay _ _).drew|>.cells
 refine dJ (S:=fun w'=>zL fb wb ob ya yb ys yt v.x (v.v 2) w') dD ?_;change wpAnyH _ _ _ _ _ _ _ _ (World.drew _);refine u3 0 (.pointer (some ⟨wb,0,none⟩)) rfl dP.out<|u3 1 (.pointer (some ⟨wb,0,none⟩)) rfl dP.out<|u3 2 (.pointer (some ⟨wb,0,none⟩)) rfl dP.out<|u3 3 (.pointer (some ⟨fb,0,none⟩)) rfl dP.out<|u3 4 (.pointer (some ⟨ob,3,none⟩)) rfl dP.out<|u3 5 (.string ys) rfl dP.out ?_
 refine rH 6 rfl fun K hK=>?_
 go_simp;refine ND.out.mono ?_;rintro e2 w2 ⟨rfl,A2,hb2⟩;have HM2:=bB ((HM0.out.below (ay W1.heap.size W1).drew).base hb2);refine hK.out _ _ HM2.out.cells (fun _=>?_);clear hK K hb2 ND dP HM0;refine eX dD ?_ _
 go_wp2_with fail
 first|go_end0|refine bV (eY rfl _ _ _) rfl ?_
 exact HM2.out.done (ai _) bS
theorem Ww(h:KW w0 A a t (left+1) fb wb r v w)(hn:(v.l 3).length=(v.l 4).length)(ya yb:Int)(ys yt:ah):
  Calls Tryz.prog 32 #[.pointer (some ⟨wb,0,none⟩),.agg #[.int .i64 6,.int .i64 ya,.int .i64 yb,.string ys,.string yt]] w (tZ w0 A a t left fb wb v w):=by
 have HM0:=bB (wY.start h hn #[.int .i64 6,.int .i64 ya,.int .i64 yb,.string ys,.string yt]);have Rv:Hid (w.heap.size=w.heap.size):=rfl
 have o0:(w.alloc (.cells #[.int .i64 6,.int .i64 ya,.int .i64 yb,.string ys,.string yt] 58)).cell? ⟨w.heap.size,0,none⟩=some (.int .i64 6):=by rw[aj _ _ _ _ _ _ HM0.out.op];rfl
 have o3:(w.alloc (.cells #[.int .i64 6,.int .i64 ya,.int .i64 yb,.string ys,.string yt] 58)).cell? ⟨w.heap.size,3,none⟩=some (.string ys):=by rw[aj _ _ _ _ _ _ HM0.out.op];rfl
 clear h hn o3
 go_enter Tryz.func32,Tryz.ntmps32
 go_wp2_with fail
 generalize w.heap.size=ob at*;generalize w.alloc (.cells #[.int .i64 6,.int .i64 ya,.int .i64 yb,.string ys,.string yt] 58)=W1 at*;have ND:=bB (KH (HM0.out.below (ay W1.heap.size W1).drew).kw.base ya yb)
 have dP:Hid (zL fb wb ob ya yb ys yt v.x (v.v 2) (World.drew W1)):=(HM0.out).below (ay _ _).drew|>.cells
 refine dJ (S:=fun w'=>zL fb wb ob ya yb ys yt v.x (v.v 2) w') dD ?_;change wpAnyH _ _ _ _ _ _ _ _ (World.drew _);refine u3 0 (.pointer (some ⟨wb,0,none⟩)) rfl dP.out<|u3 1 (.pointer (some ⟨wb,0,none⟩)) rfl dP.out<|u3 2 (.pointer (some ⟨wb,0,none⟩)) rfl dP.out<|u3 3 (.pointer (some ⟨fb,0,none⟩)) rfl dP.out<|u3 4 (.pointer (some ⟨ob,1,none⟩)) rfl dP.out<|u3 5 (.int .i64 ya) rfl dP.out<|u3 6 (.pointer (some ⟨ob,2,none⟩)) rfl dP.out<|u3 7 (.int .i64 yb) rfl dP.out ?_
 refine rH 8 rfl fun K hK=>?_
 go_simp;refine ND.out.mono ?_;rintro e2 w2 ⟨rfl,A2,hb2⟩;have HM2:=bB ((HM0.out.below (ay W1.heap.size W1).drew).base hb2);refine hK.out _ _ HM2.out.cells (fun _=>?_);clear hK K hb2 ND dP HM0;refine eX dD ?_ _
 go_wp2_with fail
 first|go_end0|refine bV (eY rfl _ _ _) rfl ?_
 exact HM2.out.done (ai _) bS
theorem Zu(h:KW w0 A a t (left+1) fb wb r v w)(hn:(v.l 3).length=(v.l 4).length)(ya yb:Int)(ys yt:ah):
  Calls Tryz.prog 32 #[.pointer (some ⟨wb,0,none⟩),.agg #[.int .i64 7,.int .i64 ya,.int .i64 yb,.string ys,.string yt]] w (tZ w0 A a t left fb wb v w):=by
 have HM0:=bB (wY.start h hn #[.int .i64 7,.int .i64 ya,.int .i64 yb,.string ys,.string yt]);have Rv:Hid (w.heap.size=w.heap.size):=rfl
 have o0:(w.alloc (.cells #[.int .i64 7,.int .i64 ya,.int .i64 yb,.string ys,.string yt] 58)).cell? ⟨w.heap.size,0,none⟩=some (.int .i64 7):=by rw[aj _ _ _ _ _ _ HM0.out.op];rfl
 have o3:(w.alloc (.cells #[.int .i64 7,.int .i64 ya,.int .i64 yb,.string ys,.string yt] 58)).cell? ⟨w.heap.size,3,none⟩=some (.string ys):=by rw[aj _ _ _ _ _ _ HM0.out.op];rfl
 clear h hn o3
 go_enter Tryz.func32,Tryz.ntmps32
 go_wp2_with fail
 generalize w.heap.size=ob at*;generalize w.alloc (.cells #[.int .i64 7,.int .i64 ya,.int .i64 yb,.string ys,.string yt] 58)=W1 at*;have ND:=bB (Om (HM0.out.below (ay W1.heap.size W1).drew).kw.base ya)
 have dP:Hid (zL fb wb ob ya yb ys yt v.x (v.v 2) (World.drew W1)):=(HM0.out).below (ay _ _).drew|>.cells
 refine dJ (S:=fun w'=>zL fb wb ob ya yb ys yt v.x (v.v 2) w') dD ?_;change wpAnyH _ _ _ _ _ _ _ _ (World.drew _);refine u3 0 (.pointer (some ⟨wb,0,none⟩)) rfl dP.out<|u3 1 (.pointer (some ⟨wb,0,none⟩)) rfl dP.out<|u3 2 (.pointer (some ⟨wb,0,none⟩)) rfl dP.out<|u3 3 (.pointer (some ⟨fb,0,none⟩)) rfl dP.out<|u3 4 (.pointer (some ⟨ob,1,none⟩)) rfl dP.out<|u3 5 (.int .i64 ya) rfl dP.out ?_
 refine rH 6 rfl fun K hK=>?_
 go_simp;refine ND.out.mono ?_;rintro e2 w2 ⟨rfl,A2,hb2⟩;have HM2:=bB ((HM0.out.below (ay W1.heap.size W1).drew).base hb2);refine hK.out _ _ HM2.out.cells (fun _=>?_);clear hK K hb2 ND dP HM0;refine eX dD ?_ _
 go_wp2_with fail
 first|go_end0|refine bV (eY rfl _ _ _) rfl ?_
 exact HM2.out.done (ai _) bS
theorem Wv(h:KW w0 A a t (left+2000010) fb wb r v w)(hn:(v.l 3).length=(v.l 4).length)(hl:(v.l 4).length<=6000000000000)(htl:(v.l 2).length<=1048576)(ya yb:Int)(ys yt:ah):
  Calls Tryz.prog 32 #[.pointer (some ⟨wb,0,none⟩),.agg #[.int .i64 5,.int .i64 ya,.int .i64 yb,.string ys,.string yt]] w (tZ w0 A a t left fb wb v w):=by
 have HM0:=bB (wY.start h hn #[.int .i64 5,.int .i64 ya,.int .i64 yb,.string ys,.string yt]);have Rv:Hid (w.heap.size=w.heap.size):=rfl
 have o0:(w.alloc (.cells #[.int .i64 5,.int .i64 ya,.int .i64 yb,.string ys,.string yt] 58)).cell? ⟨w.heap.size,0,none⟩=some (.int .i64 5):=by rw[aj _ _ _ _ _ _ HM0.out.op];rfl
 have o3:(w.alloc (.cells #[.int .i64 5,.int .i64 ya,.int .i64 yb,.string ys,.string yt] 58)).cell? ⟨w.heap.size,3,none⟩=some (.string ys):=by rw[aj _ _ _ _ _ _ HM0.out.op];rfl
 have HLT:=aV (aO hl htl);have uT:=bB (Ou HM0.out.kw hn (aC hl bS));clear h hn o3 hl htl
 go_enter Tryz.func32,Tryz.ntmps32
 go_wp2_with fail
 generalize w.heap.size=ob at*;generalize w.alloc (.cells #[.int .i64 5,.int .i64 ya,.int .i64 yb,.string ys,.string yt] 58)=W1 at*;refine uT.out.mono ?_;intro e1 w1 he1;obtain⟨he,A1,v1,hm1⟩:=HM0.out.note he1;subst he;have HM1:=bB hm1;clear he1 hm1 uT HM0
 go_wp2_with fail
 have HPK:=bB (Zq ya w1.drew)
 have dP:Hid (zL fb wb ob ya yb ys yt v.x (v.v 2) (World.drew w1)):=(HM1.out).below (ay _ _).drew|>.cells
 refine dJ (S:=fun w'=>zL fb wb ob ya yb ys yt v.x (v.v 2) w') dD ?_;change wpAnyH _ _ _ _ _ _ _ _ (World.drew _);refine u3 0 (.pointer (some ⟨wb,0,none⟩)) rfl dP.out<|u3 1 (.pointer (some ⟨wb,0,none⟩)) rfl dP.out<|u3 2 (.pointer (some ⟨wb,0,none⟩)) rfl dP.out<|u3 3 (.pointer (some ⟨fb,0,none⟩)) rfl dP.out<|u3 4 (.pointer (some ⟨ob,1,none⟩)) rfl dP.out<|u3 5 (.int .i64 ya) rfl dP.out ?_
 refine rH 6 rfl fun K hK=>?_
 go_simp;refine HPK.out.mono ?_;rintro e2 w2 ⟨fz,hfz,rfl,rfl⟩;refine hK.out _ _ dP.out (fun _=>?_);clear hK K HPK;have Rq:=bB (Ol (left:=left+2000009) (HM1.out.below (ay w1.heap.size w1).drew).kw.base fz hfz)
 refine rH 7 rfl fun K hK=>?_
 go_simp;refine Rq.out.mono ?_;rintro e3 w3 ⟨rfl,A3,hb3⟩;have HM3:=bB ((HM1.out.below (ay w1.heap.size w1).drew).base hb3);refine hK.out _ _ HM3.out.cells (fun _=>?_);clear hK K hb3 Rq dP HM1 hfz;refine eX dD ?_ _
 go_wp2_with fail
 have MG:=bB (HM3.out.below (ay w3.heap.size w3).drew);have uP:=bB (Lc (left:=left+9) v.x (v.v 2) (v.l 2) MG.out.kw.base (by have h:=MG.out.kw.texts;rw[MG.out.vt,MG.out.ts] at h;exact h) (by rw[<-MG.out.x];exact MG.out.kw.text) HLT.out.2 (fun y hy=>aC (MG.out.kw.each y (by rw[MG.out.ts];exact hy)) bS))
 have dP:Hid (zL fb wb ob ya yb ys yt v.x (v.v 2) (World.drew w3)):=(HM3.out).below (ay _ _).drew|>.cells
 refine dJ (S:=fun w'=>zL fb wb ob ya yb ys yt v.x (v.v 2) w') dD ?_;change wpAnyH _ _ _ _ _ _ _ _ (World.drew _);refine u3 0 (.pointer (some ⟨wb,0,none⟩)) rfl dP.out<|u3 1 (.pointer (some ⟨wb,0,none⟩)) rfl dP.out<|u3 2 (.pointer (some ⟨wb,0,none⟩)) rfl dP.out<|u3 3 (.pointer (some ⟨fb,0,none⟩)) rfl dP.out<|u3 4 (.pointer (some ⟨wb,0,none⟩)) rfl dP.out<|u3 5 (.pointer (some ⟨wb,0,none⟩)) rfl dP.out<|u3 6 (.pointer (some ⟨wb,1,none⟩)) rfl dP.out<|u3 7 (.string v.x) rfl dP.out<|u3 8 (.pointer (some ⟨wb,0,none⟩)) rfl dP.out<|u3 9 (.pointer (some ⟨wb,0,none⟩)) rfl dP.out<|u3 10 (.pointer (some ⟨wb,2,none⟩)) rfl dP.out<|u3 11 (v.v 2) rfl dP.out ?_
 refine rH 12 rfl fun K hK=>?_
 go_simp;refine uP.out.mono ?_;rintro e4 w4 ⟨r1,r2,r3,r4,A4,rfl,_,_,hb4⟩;have ru:=bB (MG.out.base hb4);refine hK.out _ _ ru.out.cells (fun _=>?_);clear hK K hb4 uP dP HM3 MG;refine eX dD ?_ _;have b0:=ru.out.cells.b0;have Rq:=bB (Ol (left:=left+8) ru.out.kw.base 0 bS)
 go_wp2_with fail
 refine Rq.out.mono ?_;rintro e5 w5 ⟨rfl,A5,hb5⟩;have Ac:=bB (ru.out.base hb5);clear hb5 Rq ru b0;have uT:=bB (Ou Ac.out.kw Ac.out.len (by have h1:=Ac.out.few;have h2:=HLT.out.1;omega))
 go_wp2_with fail
 refine uT.out.mono ?_;intro e6 w6 he6;obtain⟨he,A6,v6,Zk⟩:=Ac.out.note he6;subst he;have HM6:=bB Zk;clear he6 Zk uT Ac
 go_wp2_with fail
 first|go_end0|refine bV (eY rfl _ _ _) rfl ?_
 exact HM6.out.done aJ bS
theorem Wx(h:KW w0 A a t (left+0) fb wb r v w)(hn:(v.l 3).length=(v.l 4).length)(kd:Int)(hk:kd<1\/7<kd)(ya yb:Int)(ys yt:ah):
  Calls Tryz.prog 32 #[.pointer (some ⟨wb,0,none⟩),.agg #[.int .i64 kd,.int .i64 ya,.int .i64 yb,.string ys,.string yt]] w (tZ w0 A a t left fb wb v w):=by
 have HM0:=bB (wY.start h hn #[.int .i64 kd,.int .i64 ya,.int .i64 yb,.string ys,.string yt]);have Rv:Hid (w.heap.size=w.heap.size):=rfl
 have o0:(w.alloc (.cells #[.int .i64 kd,.int .i64 ya,.int .i64 yb,.string ys,.string yt] 58)).cell? ⟨w.heap.size,0,none⟩=some (.int .i64 kd):=by rw[aj _ _ _ _ _ _ HM0.out.op];rfl
 have o3:(w.alloc (.cells #[.int .i64 kd,.int .i64 ya,.int .i64 yb,.string ys,.string yt] 58)).cell? ⟨w.heap.size,3,none⟩=some (.string ys):=by rw[aj _ _ _ _ _ _ HM0.out.op];rfl
 clear h hn o3
 have k1:¬kd=1:=aJ
 have k2:¬kd=2:=aJ
 have k3:¬kd=3:=aJ
 have k4:¬kd=4:=aJ
 have k5:¬kd=5:=aJ
 have k6:¬kd=6:=aJ
 have k7:¬kd=7:=aJ
 clear hk
 go_enter Tryz.func32,Tryz.ntmps32
 go_wp2_with fail
 first|go_end0|refine bV (eY rfl _ _ _) rfl ?_
 exact HM0.out.done (ai _) bS
theorem abM(h:KW w0 A a t (left+0) fb wb r v w)(hn:(v.l 3).length=(v.l 4).length)(ya yb:Int)(ys yt:ah)(hx:ys=jO):
  Calls Tryz.prog 32 #[.pointer (some ⟨wb,0,none⟩),.agg #[.int .i64 3,.int .i64 ya,.int .i64 yb,.string ys,.string yt]] w (tZ w0 A a t left fb wb v w):=by
 have HM0:=bB (wY.start h hn #[.int .i64 3,.int .i64 ya,.int .i64 yb,.string ys,.string yt]);have Rv:Hid (w.heap.size=w.heap.size):=rfl
 have o0:(w.alloc (.cells #[.int .i64 3,.int .i64 ya,.int .i64 yb,.string ys,.string yt] 58)).cell? ⟨w.heap.size,0,none⟩=some (.int .i64 3):=by rw[aj _ _ _ _ _ _ HM0.out.op];rfl
 have o3:(w.alloc (.cells #[.int .i64 3,.int .i64 ya,.int .i64 yb,.string ys,.string yt] 58)).cell? ⟨w.heap.size,3,none⟩=some (.string ys):=by rw[aj _ _ _ _ _ _ HM0.out.op];rfl
 have q:(ys.toList==[46,108,111,103])=true:=by rw[show([46,108,111,103]:List UInt8)=jO.toList by rw[eG];rfl,AV];exact bT hx
 clear h hn hx
 go_enter Tryz.func32,Tryz.ntmps32
 go_wp2_with fail
 first|go_end0|refine bV (eY rfl _ _ _) rfl ?_
 exact HM0.out.done (ai _) bS
theorem Tw(h:KW w0 A a t left fb wb r v w)(hn:(v.l 3).length=(v.l 4).length)(hl:(v.l 2).length<=1000000)(a2 b:Int)(s t2:ah)(hs:s.size<=140737488351232):
  Calls Tryz.prog 32 #[.pointer (some ⟨wb,0,none⟩),.agg #[.int .i64 2,.int .i64 a2,.int .i64 b,.string s,.string t2]] w (tZ w0 A a t left fb wb v w):=by
 obtain⟨ti,HTI⟩:=iT (P:=Tryz.prog) (e:=9) (n:=1) (b:=16) (z:=(.string ⟨#[]⟩)) dD;have h2:=h.own 2 (ai _) bS;obtain⟨MS,xh,hvt,_,_⟩:=bE h2;generalize hTL:(v.l 2).length=TL at*;have HV:=aV (aO hvt (aO hTL hn));clear hTL h2 hn;obtain⟨W1,hW1⟩:∃W1,W1=w.alloc (.cells #[.int .i64 2,.int .i64 a2,.int .i64 b,.string s,.string t2] 58):=⟨_,rfl⟩
 have HB1:Hid (Below w.heap.size w W1):=by rw[hW1];exact(ay _ _).alloc (ai _) _
 have c0:W1.cell? ⟨w.heap.size,0,none⟩=some (.int .i64 2):=by rw[hW1];exact jy _ _ _ _ _ rfl
 have c3:W1.cell? ⟨w.heap.size,3,none⟩=some (.string s):=by rw[hW1];exact jy _ _ _ _ _ rfl
 have HH1:=bB (h.below HB1.out)
 have cs:W1.cell? ⟨wb,2,none⟩=some (.slice MS TL xh):=by rw[aj _ _ _ _ _ _ HH1.out.row,<-hvt];rfl
 have hsz1:W1.heap.size=w.heap.size+1:=by rw[hW1];exact bO _ _
 have csa:(W1.alloc (.cells #[.string s] 9)).cell? ⟨wb,2,none⟩=some (.slice MS TL xh):=(aF (w:=W1) (a:=⟨wb,2,none⟩) (bC _ _ wb (bN HH1.out.row))).trans cs;clear h hvt
 go_enter Tryz.func32,Tryz.ntmps32
 go_wp2_with fail
 rw[<-hW1];clear hW1;refine jX dD ?_;change wpAny _ _ _ _ _ _ _ (World.drew _);refine uA 0 (.pointer (some ⟨wb,0,none⟩)) rfl<|uA 1 (.pointer (some ⟨wb,0,none⟩)) rfl<|uA 2 (.pointer (some ⟨wb,0,none⟩)) rfl<|uA 3 (.pointer (some ⟨wb,2,none⟩)) rfl<|uA 5 (.pointer (some ⟨w.heap.size,3,none⟩)) rfl ?_
 refine pA 4 6 rfl rfl (fun K hK=>?KY) fun K hK=>?KZ
 case' KY=>
  go_simp;refine hK _ _ ?_;clear hK K
  refine rA 6 rfl fun K hK=>?_
  go_simp;refine hK _ _ ?_;clear hK K
  refine rA 7 rfl fun K hK=>?_
  go_simp
 case' KZ=>
  go_simp;refine hK _ _ ?_;clear hK K
  refine pA 4 7 rfl rfl (fun K hK=>?QI) fun K hK=>?QJ
  case' QI=>
   go_simp;refine hK _ _ ?_;clear hK K
   refine rA 7 rfl fun K hK=>?_
   go_simp
  case' QJ=>
   go_simp;refine hK _ _ ?_;clear hK K
   refine rA 4 rfl fun K hK=>?_
   go_simp
 all_goals
  refine hK _ _ ?_;clear hK K;obtain⟨W8,Gr⟩:∃W8,W8=(W1.alloc (.cells #[.string s] 9)).drew:=⟨_,rfl⟩
  have Bd:Hid (Below W1.heap.size W1 W8):=by rw[Gr];exact((ay _ _).alloc (ai _) _).drew
  have HN8:Hid (∀j u,([.string s]:List Value)[j]?=some u->W8.cell? ((⟨w.heap.size+1,0,none⟩:Addr).add j)=some u):=by rw[Gr,<-hsz1];exact iM W1 _ _
  rw[<-Gr];clear Gr csa;have H8:=HH1.out.below Bd.out
  have HD8:Hid (W8.ownsRow 0 9 1 (.slice MS TL xh) TL ((v.l 2).map Value.string)):=by have h:=H8.own 2 (ai _) bS;rw[HV.out.1,HV.out.2.1] at h;exact h
  refine rA 8 rfl fun K hK=>?_
  refine step_append_lies _ rfl (.tmp 19) (.tmp 22) 32 rfl 0 9 ti (.string ⟨#[]⟩) 1 16 Tryz.underlying32 HTI.out.1 HTI.out.2.2.2 HTI.out.2.1 HTI.out.2.2.1 rfl bS _ TL ((v.l 2).map Value.string) rfl HD8.out ⟨w.heap.size+1,0,none⟩ 1 1 [.string s] rfl rfl HN8.out (by intro u hu;simp only[bg,dH,kz] at hu;subst hu;rfl) bS (by unfold maxLen;omega) aJ (aS _) _ rfl ?_;intro g6 cap6 w6 hv6 hg6 hat6 hlt6;have hadd:=H8.add (i:=2) (x:=s) (g:=g6) (cap:=cap6) (w7:=w6) (ai _) bS HV.out.2.1 (by rw[HV.out.1];exact hg6) (by rw[HV.out.1];exact hat6) hv6 (fun _=>hs);have d6:=hadd.1;rw[HV.out.1] at d6;have f6:=hadd.2.1
  have HFIN:Hid (tZ w0 A a t left fb wb v w (.returned (.tuple #[])) (w6.setCell ⟨wb,2,none⟩ (.slice (some ⟨g6,0,none⟩) (TL+1) cap6))):=by
   refine⟨rfl,r,_,zH.after HB1.out (zH.after Bd.out hadd.2.2),HV.out.2.2,Ah _ _,?_⟩;show(v.l 2++[s]).length<=_;rw[aI];exact dG rfl
  clear hv6 hg6 hat6 hlt6 H8 hadd;refine hK _ _ ?_;clear hK K;refine uA 9 (.pointer (some ⟨wb,0,none⟩)) rfl<|uA 10 (.pointer (some ⟨wb,2,none⟩)) rfl ?_
  refine rA 11 rfl fun K hK=>?_
  go_simp;refine hK _ _ ?_;clear hK K;refine yR dD ?_ _
  go_wp2_with fail
  first|go_end0|refine bV (eY rfl _ _ _) rfl ?_
  exact HFIN.out
theorem abL(h:KW w0 A a t (left+2000010) fb wb r v w)(hn:(v.l 3).length=(v.l 4).length)(hl:(v.l 4).length<=6000000000000)(htl:(v.l 2).length<=1000000)(kd ya yb:Int)(ys yt:ah)(hs:ys.size<=140737488351232)(ht:yt.size<=140737488351232):
  Calls Tryz.prog 32 #[.pointer (some ⟨wb,0,none⟩),.agg #[.int .i64 kd,.int .i64 ya,.int .i64 yb,.string ys,.string yt]] w (tZ w0 A a t left fb wb v w):=by
 by_cases k0:kd<1\/7<kd
 ·exact Wx (left:=left) (h.less aJ) hn kd k0 ya yb ys yt
 obtain rfl|rfl|rfl|rfl|rfl|rfl|rfl:kd=1\/kd=2\/kd=3\/kd=4\/kd=5\/kd=6\/kd=7:=aJ
 ·exact Zv (h.less aJ) hn ya yb ys yt hs
 ·exact Tw (h.less aJ) hn htl ya yb ys yt hs
 ·by_cases hx:ys=jO
  ·exact abM (left:=left) (h.less aJ) hn ya yb ys yt hx
  refine(KL (left:=left) (h.less aJ) hn ya yb ys yt hs ht hx).mono ?_;rintro e w' ⟨rfl,ob,A',v',hm⟩;exact hm.done (ai _) bS
 ·exact Tv (h.less aJ) hn ya yb ys yt hs
 ·exact Wv h hn hl aJ ya yb ys yt
 ·exact Ww (h.less aJ) hn ya yb ys yt
 exact Zu (h.less aJ) hn ya yb ys yt
structure Ey(a:Nat->Addr)(t:Nat->ah)(w:ak):Prop where
 pU:uR a t w
 rounds:jC w
 gl:Gl a w
theorem Ey.keep{w':ak}(h:Ey a t w)(ht:aW (fun k=>w.heap.size<=k) w w'):Ey a t w':=by
 have hg:∀k,k<14->w'.heap[k]?=w.heap[k]?:=fun k hk=>ht.block k (aB hk h.gl.size) (by have:=h.gl.size;omega)
 exact⟨h.pU.keep hg (fun k hk=>ht.block _ (iN (h.pU.text k hk)) (by have:=iN (h.pU.text k hk);omega)),h.rounds.keep hg,h.gl.keep ht.size hg⟩
variable {A':Nat->Nat}
theorem abO{w1:ak}{d:dX}(h:Ey a t w)(hp:jg A' 1 0 fb d r w1)(hI:rY 0 r d)(hA:∀k,k<w.heap.size->A' k=0)(hb:Below w.heap.size w w1)(hl:left<=900000000000)(x:ah)(hx:x.size<=140737488351232):
  ∃A2,KW w A2 a t left fb w1.heap.size r ⟨x,fun _=>.slice none 0 0,fun _=>[],false⟩ (w1.alloc (.cells #[.pointer (some ⟨fb,0,none⟩),.string x,.slice none 0 0,.slice none 0 0,.slice none 0 0,.bool false] 34)):=by
 have hf:qf A' left fb r w1:=⟨0,d,aJ,hp,hI⟩
 have hz:∀k,k<w.heap.size->(if k<w1.heap.size/\A' k=1 then 1 else 0)=0:=fun k hk=>aA (fun q=>by have:=q.2;rw[hA k hk] at this;omega)
 have hg:∀k,k<14->w1.heap[k]?=w.heap[k]?:=fun k hk=>hb.block k (aB hk h.gl.size)
 have hB:nZ (fun k=>if k<w1.heap.size/\A' k=1 then 1 else 0) a t left fb r w1:=by
  refine⟨⟨h.pU.keep hg (fun k hk=>hb.block _ (iN (h.pU.text k hk))),fun k hk=>hz k (aB hk h.gl.size),fun k hk=>hz _ (iN (h.pU.text k hk)),aC h.gl.size hb.size⟩,h.rounds.keep hg,h.gl.keep hb.size hg,hf.Yc (fun k hk=>⟨fun e=>aH ⟨hk,e⟩,fun e=>aA (fun q=>by have:=q.2;omega)⟩),fun k hk=>aA (fun q=>by have:=q.1;omega),fun k=>?_⟩;show(if k<w1.heap.size/\A' k=1 then 1 else 0)=0\/(if k<w1.heap.size/\A' k=1 then 1 else 0)=1\/9<=(if k<w1.heap.size/\A' k=1 then 1 else 0)
  split
  ·exact aP (aK rfl)
  exact aK rfl
 have hz2:∀k,k<w.heap.size->(fun k=>if k<w1.heap.size/\A' k=1 then 1 else 0) k=0:=hz;clear hz;generalize (fun k=>if k<w1.heap.size/\A' k=1 then 1 else 0)=A1 at hB hz2;have hal:Below w1.heap.size w1 (w1.alloc (.cells #[.pointer (some ⟨fb,0,none⟩),.string x,.slice none 0 0,.slice none 0 0,.slice none 0 0,.bool false] 34)):=(ay _ _).alloc (ai _) _;have hsz:(w1.alloc (.cells #[.pointer (some ⟨fb,0,none⟩),.string x,.slice none 0 0,.slice none 0 0,.slice none 0 0,.bool false] 34)).heap.size=w1.heap.size+1:=bO _ _;refine⟨fun k=>if k=w1.heap.size then 10 else A1 k,hB.turn hal.size (fun k hk=>aA aJ) (fun k hk _=>hal.block k hk) (fun k hk=>(aA aJ).trans (hB.above k aJ)) (fun k hk=>?_),bq _ _ _ rfl,fun i _ _=>dK _ _ _ _,aH rfl,fun i _ _ k hk=>(by cases hk),(aW.of_below _ (hb.trans (hal.mono hb.size))),fun k hk=>(aA (by have:=hb.size;omega)).trans (hz2 k hk),hx,(fun y hy=>by cases hy)⟩
 by_cases q:k=w1.heap.size
 ·exact aP (by show 9<=(if k=w1.heap.size then 10 else A1 k);rw[aH q];decide)
 exact aK ((aA q).trans (hB.above k hk))
def adl(a:Nat->Addr)(t:Nat->ah)(w:ak)(e:Ending)(w':ak):Prop:=∃fb wb A v r,e=.returned (.pointer (some ⟨wb,0,none⟩))/\KW w A a t 9999998 fb wb r v w'/\Up r/\(v.l 2).length<=32768
theorem Zr(a:Nat->Addr)(t:Nat->ah)(ao:Option Addr)(n cap:Nat)(w:ak)(hs:qJ w ao n)(hn:n<=32768)(h:Ey a t w):
  Calls Tryz.prog 18 #[.slice ao n cap] w (adl a t w):=by
 have HS:=bB hs;have HG:=bB h;have Ev:=bB (TV (fun _=>0) 1 0 w h.gl.size 65536)
 have n0:(n:Int)<=32768:=aJ
 clear hs h
 go_enter Tryz.func18,Tryz.ntmps18
 go_wp2_with fail
 refine Ev.out.mono ?_;rintro e1 w1 ⟨fb,A',rfl,hp,hA,_,hb1⟩;obtain⟨A2,hk⟩:=abO (left:=n*2000010+10000000) HG.out hp (rY.fresh 0 65536) hA hb1 aJ ⟨#[]⟩ bS;have Pv:Hid (∃A2 r,KW w A2 a t (n*2000010+10000000) fb w1.heap.size r ⟨⟨#[]⟩,fun _=>.slice none 0 0,fun _=>[],false⟩ (w1.alloc (.cells #[.pointer (some ⟨fb,0,none⟩),.string ⟨#[]⟩,.slice none 0 0,.slice none 0 0,.slice none 0 0,.bool false] 34))):=⟨A2,_,hk⟩;clear hk hp hA hb1 Ev
 go_wp2_with fail
 generalize w1.alloc (.cells #[.pointer (some ⟨fb,0,none⟩),.string ⟨#[]⟩,.slice none 0 0,.slice none 0 0,.slice none 0 0,.bool false] 34)=w2 at*;generalize w1.heap.size=wb at*
 go_loopw [4] (fun i wr=>∃(j:Nat) (A':Nat->Nat) (r:bY) (v:KV),i=.int .i64 j/\j<=n/\KW w A' a t ((n-j)*2000010+10000000) fb wb r v wr/\(v.l 3).length=(v.l 4).length/\(v.l 4).length<=j*2800000/\(v.l 2).length<=j) (fun i _=>n-(intOf i).toNat)
 case atStart=>
  obtain⟨A2,r,hk⟩:=Pv.out;exact⟨0,A2,r,_,rfl,aS _,hk,rfl,aS _,aS _⟩
 case round=>
  obtain⟨j,A',r,v,rfl,hj,hk,hl,hl4,hl2⟩:=hrel;have HK:=bB hk;have HL:=aV (aO hl (aO hl4 hl2))
  have b0:wr.cell? ⟨wb,0,none⟩=some (.pointer (some ⟨fb,0,none⟩)):=by rw[aj _ _ _ _ _ _ hk.row];rfl
  have j0:(0:Int)<=(j:Int):=aJ
  clear hk hl hl4 hl2
  by_cases hlt:j<n
  ·have j1:(j:Int)<(n:Int):=aJ
   obtain⟨b,o,rfl,hop⟩:∃b o,ao=some ⟨b,o,none⟩/\∃y,tN w y b (o+j*5):=by
    obtain⟨_,h|⟨b,o,e,h⟩⟩:=HS.out
    ·omega
    exact⟨b,o,e,h j hlt⟩
   obtain⟨y,hy0⟩:=hop;have hy:tN wr y b (o+j*5):=hy0.later HK.out.bl.size (fun k hk=>HK.out.bl.block k hk aJ);have c0:=hy.c0;have c1:=hy.c1;have c2:=hy.c2;have c3:=hy.c3;have c4:=hy.c4;have hsS:=hy.sS;have hsT:=hy.sT;clear hy hy0;obtain⟨kd,ya,yb,ys,yt⟩:=y;simp only at c0 c1 c2 c3 c4 hsS hsT;have RH:=bB (abL (left:=(n-(j+1))*2000010+10000000) (HK.out.less aJ) HL.out.1 (by have:=HL.out.2.1;omega) (by have:=HL.out.2.2;omega) kd ya yb ys yt hsS hsT)
   go_wp2_with fail
   refine RH.out.mono ?_;rintro e w4 ⟨rfl,r4,v4,⟨A4,hk4,_,_⟩,h3,h4,h5⟩;have Bl:Hid (KW w A4 a t ((n-(j+1))*2000010+10000000) fb wb r4 v4 w4/\(v4.l 3).length=(v4.l 4).length/\(v4.l 4).length<=(j+1)*2800000/\(v4.l 2).length<=j+1):=⟨hk4,h3,by have:=HL.out.2.1;omega,by have:=HL.out.2.2;omega⟩;clear RH hk4 h3 h4 h5 c0 c1 c2 c3 c4 b0
   go_wp2
   exact⟨⟨j+1,A4,r4,v4,oW,aJ,Bl.out⟩,by simp[intOf];omega⟩
  obtain rfl:j=n:=aJ
  have HCR:=bB (KH (left:=10000000-1) (HK.out.less aJ).base 65536 (-1));clear Pv
  go_wp2_with fail
  refine HCR.out.mono ?_;rintro e5 w5 ⟨rfl,A5,hb5⟩;have HK5:=bB (HK.out.keep hb5.1 hb5.2.1 hb5.2.2)
  have b5:w5.cell? ⟨wb,0,none⟩=some (.pointer (some ⟨fb,0,none⟩)):=by rw[aj _ _ _ _ _ _ HK5.out.row];rfl
  have Da:=bB (Om (left:=10000000-2) HK5.out.base 65536);clear HCR hb5 HK b0
  go_wp2_with fail
  refine Da.out.mono ?_;rintro e6 w6 ⟨rfl,A6,hb6⟩;have HK6:=bB (HK5.out.keep hb6.1 hb6.2.1 hb6.2.2);clear Da hb6 HK5 b5
  go_wp2_with fail
  go_ret;exact⟨fb,wb,A6,v,_,rfl,HK6.out,⟨rfl,rfl⟩,by have:=HL.out.2.2;omega⟩
theorem BR(l:List ah)(v1 v2:Value)(w:ak)(h1:bL w v1 l)(h2:bL w v2 l)(hs:l.length<=1099511627776):
  Calls Tryz.prog 23 #[v1,v2] w fun e w'=>e=.returned (.bool true)/\∃m,w'=w.drewN m:=by
 obtain⟨a1,c1,rfl,hc1,h1⟩:=h1;obtain⟨a2,c2,rfl,hc2,h2⟩:=h2;have H1:=bB h1;have H2:=bB h2
 have n0:(l.length:Int)<=1099511627776:=aJ
 clear h1 h2 hc1 hc2;generalize hL:l.length=L at*
 go_enter Tryz.func23,Tryz.ntmps23
 go_wp2
 go_loopw [5] (fun i wr=>∃j:Nat,i=.int .i64 j/\j<=L/\∃m,wr=w.drewN m) (fun i _=>L-(intOf i).toNat)
 case atStart=>exact⟨0,rfl,aS _,0,rfl⟩
 case round=>
  obtain⟨j,rfl,hle,m,rfl⟩:=hrel
  have i0:(0:Int)<=(j:Int):=aJ
  by_cases hlt:j<L
  ·obtain⟨x,hx⟩:∃x,l[j]?=some x:=⟨l[j]' aJ,eB⟩
   obtain⟨g1,o1,rfl,q1⟩:∃b o,a1=some ⟨b,o,none⟩/\∀k s,l[k]?=some s->w.cell? ⟨b,o+k,none⟩=some (.string s):=by
    rcases H1.out with e|e
    ·rw[e.2.1] at hx;simp at hx
    exact e
   obtain⟨g2,o2,rfl,q2⟩:∃b o,a2=some ⟨b,o,none⟩/\∀k s,l[k]?=some s->w.cell? ⟨b,o+k,none⟩=some (.string s):=by
    rcases H2.out with e|e
    ·rw[e.2.1] at hx;simp at hx
    exact e
   have r1:(w.drewN m).cell? ⟨g1,o1+j,none⟩=some (.string x):=q1 j x hx;have r2:(w.drewN m).cell? ⟨g2,o2+j,none⟩=some (.string x):=q2 j x hx
   have i1:(j:Int)<(L:Int):=aJ
   have hq:(x.toList==x.toList)=true:=IQ _;clear q1 q2 hx
   go_wp2_with fail
   go_region_held3 (fun w'=>w'.cell? ⟨g1,o1+j,none⟩=some (.string x)/\w'.cell? ⟨g2,o2+j,none⟩=some (.string x)) (exact⟨r1,r2⟩) (fail)
   all_goals
    clear r1 r2;have hdw:(w.drewN m).drew=w.drewN (m+1):=rfl;rw[hdw];clear hdw
    try rw[hq]
    clear hq
    go_wp2
    refine⟨⟨j+1,oW,hlt,m+1,rfl⟩,by simp[intOf];omega⟩
  obtain rfl:j=L:=aJ
  go_wp2
  go_ret;exact⟨rfl,m,rfl⟩
def aaZ(w:ak)(v:Value)(l:List bP):Prop:=∃ao cap,v=.slice ao l.length cap/\(l=[]\/∃b,ao=some ⟨b,0,none⟩/\∀(k:Nat) x,l[k]?=some x->w.cell? ⟨b,k*2,none⟩=some (.string x.1)/\w.cell? ⟨b,k*2+1,none⟩=some (.string x.2))
theorem Zt(l:List bP)(v1 v2:Value)(w:ak)(h1:aaZ w v1 l)(h2:aaZ w v2 l)(hs:l.length<=1099511627776):
  Calls Tryz.prog 22 #[v1,v2] w fun e w'=>e=.returned (.bool true)/\∃m,w'=w.drewN m:=by
 obtain⟨a1,c1,rfl,h1⟩:=h1;obtain⟨a2,c2,rfl,h2⟩:=h2;have H1:=bB h1;have H2:=bB h2
 have n0:(l.length:Int)<=1099511627776:=aJ
 clear h1 h2;generalize hL:l.length=L at*
 go_enter Tryz.func22,Tryz.ntmps22
 go_wp2
 go_loopw [5] (fun i wr=>∃j:Nat,i=.int .i64 j/\j<=L/\∃m,wr=w.drewN m) (fun i _=>L-(intOf i).toNat)
 case atStart=>exact⟨0,rfl,aS _,0,rfl⟩
 case round=>
  obtain⟨j,rfl,hle,m,rfl⟩:=hrel
  have i0:(0:Int)<=(j:Int):=aJ
  by_cases hlt:j<L
  ·obtain⟨x,hx⟩:∃x,l[j]?=some x:=⟨l[j]' aJ,eB⟩
   obtain⟨g1,rfl,q1⟩:∃b,a1=some ⟨b,0,none⟩/\∀(k:Nat) x,l[k]?=some x->w.cell? ⟨b,k*2,none⟩=some (.string x.1)/\w.cell? ⟨b,k*2+1,none⟩=some (.string x.2):=by
    rcases H1.out with e|e
    ·rw[e] at hx;simp at hx
    exact e
   obtain⟨g2,rfl,q2⟩:∃b,a2=some ⟨b,0,none⟩/\∀(k:Nat) x,l[k]?=some x->w.cell? ⟨b,k*2,none⟩=some (.string x.1)/\w.cell? ⟨b,k*2+1,none⟩=some (.string x.2):=by
    rcases H2.out with e|e
    ·rw[e] at hx;simp at hx
    exact e
   obtain⟨xn,xd⟩:=x;have r1:(w.drewN m).cell? ⟨g1,j*2,none⟩=some (.string xn):=(q1 j _ hx).1;have r2:(w.drewN m).cell? ⟨g1,j*2+1,none⟩=some (.string xd):=(q1 j _ hx).2;have r3:(w.drewN m).cell? ⟨g2,j*2,none⟩=some (.string xn):=(q2 j _ hx).1;have r4:(w.drewN m).cell? ⟨g2,j*2+1,none⟩=some (.string xd):=(q2 j _ hx).2
   have i1:(j:Int)<(L:Int):=aJ
   have hq:(xn.toList==xn.toList)=true:=IQ _;have hq2:(xd.toList==xd.toList)=true:=IQ _;clear q1 q2 hx
   go_wp2_with fail
   go_region_held3 (fun w'=>(w'.cell? ⟨g1,j*2,none⟩=some (.string xn)/\w'.cell? ⟨g1,j*2+1,none⟩=some (.string xd))/\w'.cell? ⟨g2,j*2,none⟩=some (.string xn)/\w'.cell? ⟨g2,j*2+1,none⟩=some (.string xd)) (exact⟨⟨r1,r2⟩,r3,r4⟩) (fail)
   all_goals
    clear r1 r2 r3 r4;have hdw:(w.drewN m).drew=w.drewN (m+1):=rfl;rw[hdw];clear hdw hq hq2
    go_wp2
    refine⟨⟨j+1,oW,hlt,m+1,rfl⟩,by simp[intOf];omega⟩
  obtain rfl:j=L:=aJ
  go_wp2
  go_ret;exact⟨rfl,m,rfl⟩
def Ij(x:bP):Bool:=!decide (x.1=jO)&&!decide (x.1=gH)
def vT(r:bY)(l:List bP):List bP:=(l.filter Ij).map fun x=>(x.1,(dM r x.1).getD ⟨#[]⟩)
theorem Ur{B:Nat}{v:Value}{l:List bP}(h:w.ownsRow B 77 2 v l.length (uw l)):aaZ w v l:=by
 obtain⟨ao,cap,rfl,_,hg⟩:=bE h;refine⟨ao,cap,rfl,?_⟩
 by_cases h0:l=[]
 ·exact aK h0
 obtain⟨g,rfl⟩:=hg (gD.2 h0);exact aP ⟨g,rfl,fun k x hx=>⟨(dV h _ _ (Ht l k x hx).1).1,(dV h _ _ (Ht l k x hx).2).1⟩⟩
structure yC(A:Nat->Nat)(a:Nat->Addr)(t:Nat->ah)(left fb:Nat)(r:bY)(w:ak)(l:List bP)(v:Value)(A':Nat->Nat)(wr:ak):Prop where
 base:nZ A' a t left fb r wr
 hA:∀k,k<w.heap.size->A' k=A k
 turns:aW (fun k=>A k=1) w wr
 row:wr.ownsRow w.heap.size 77 2 v l.length (uw l)
 col:∀k,v.ownBlock=some k->A' k=9
variable {wr w2:ak}
theorem yC.read{l:List bP}{v:Value}(h:yC A a t left fb r w l v A' wr)(hb:nX A' a t left fb r wr w2 A'):yC A a t left fb r w l v A' w2:=
 ⟨hb.1,h.hA,h.turns.trans hb.2.2 (fun k e=>by
  by_cases q:k<w.heap.size
  ·rw[h.hA k q] at e;exact aK e
  exact aP aJ),dR h.row (fun k hk=>hb.2.2.block k (bF h.row k hk).2 (by rw[h.col k hk];decide)),h.col⟩
theorem yC.below{l:List bP}{v:Value}(h:yC A a t left fb r w l v A' wr)(hb:Below wr.heap.size wr w2):yC A a t left fb r w l v A' w2:=h.read ⟨h.base.below hb,fun _ _=>rfl,aW.of_below _ hb⟩
theorem yC.add{l:List bP}{v:Value}{g cap n:Nat}{x:bP}(h:yC A a t left fb r w l v A' wr)(hn:l.length=n)(hg:wr.grownBy w2 v.ownBlock)(hat:v.ownBlock=some g\/g=wr.heap.size)(hr:w2.ownsRow w.heap.size 77 2 (.slice (some ⟨g,0,none⟩) (n+1) cap) (n+1) (uw l++[.string x.1,.string x.2])):∃A2,yC A a t left fb r w (l++[x]) (.slice (some ⟨g,0,none⟩) (n+1) cap) A2 w2/\∀k,k<wr.heap.size->A2 k=A' k:=by
 subst hn;have hgl:=(bF hr g rfl).2
 have hA2:∀k,k<wr.heap.size->(if k=g then 9 else A' k)=A' k:=fun k hk=>by
  by_cases q:k=g
  ·rw[aH q]
   rcases hat with e|e
   ·exact(h.col k (by rw[q];exact e)).symm
   omega
  exact aA q
 have hkp:∀k,k<wr.heap.size->A' k≠9->w2.heap[k]?=wr.heap[k]?:=fun k hk q=>hg.block k hk (fun e=>q (h.col k e.symm))
 have hsz:=h.turns.size;refine⟨fun k=>if k=g then 9 else A' k,⟨h.base.turn hg.size hA2 (fun k hk q=>hkp k hk aJ) (fun k hk=>(aA aJ).trans (h.base.above k (aC hg.size hk))) (fun k hk=>?_),fun k hk=>(hA2 k aJ).trans (h.hA k hk),⟨hg.os.trans h.turns.os,hg.output.trans h.turns.output,aC hsz hg.size,fun k hk q=>?_⟩,?_,fun k hk=>aH (ax hk).symm⟩,hA2⟩
 ·by_cases q:k=g
  ·exact aP (by show 9<=(if k=g then 9 else A' k);rw[aH q];decide)
  exact aK ((aA q).trans (h.base.above k hk))
 ·refine(hg.block k aJ (fun e=>?_)).trans (h.turns.block k hk q);have:=(bF h.row k e.symm).1;omega
 rw[aI,Na];exact hr
def ae3(A:Nat->Nat)(a:Nat->Addr)(t:Nat->ah)(left fb:Nat)(r:bY)(w:ak)(e:Ending)(w':ak):Prop:=∃v A',e=.returned v/\yC A a t left fb r w (vT r r.seen) v A' w'
theorem Tp(h:KW w0 A a t left fb wb r v w):
  Calls Tryz.prog 20 #[.pointer (some ⟨wb,0,none⟩)] w (ae3 A a t left fb r w):=by
 obtain⟨ti,HTI⟩:=iT (P:=Tryz.prog) (e:=77) (n:=2) (b:=32) (z:=(.agg #[.string ⟨#[]⟩,.string ⟨#[]⟩])) dD;have HK:Hid (A wb≠1/\wb<w.heap.size/\w.cell? ⟨wb,0,none⟩=some (.pointer (some ⟨fb,0,none⟩))):=⟨by rw[h.cw];decide,bN h.row,by rw[aj _ _ _ _ _ _ h.row];rfl⟩;have c0:=HK.out.2.2;have Vp:=bB (KI h.base)
 have HI:Hid (qg r.seen/\totalBytes r.seen<=65536/\r.seen.length<=900000000000/\sF r.seen):=by
  obtain⟨c,d,hc,_,hI⟩:=h.base.files;exact⟨hI.sorted,hI.total,by have:=hI.Js;omega,hI.Cx⟩
 clear h
 go_enter Tryz.func20,Tryz.ntmps20
 go_wp2_with fail
 refine Vp.out.mono ?_;rintro e1 w1 ⟨g,hg,hgl,hg0,rfl,hcell,hbe⟩;have FV:Hid (yC A a t left fb r w [] (.slice none 0 0) A w1):=⟨hbe.1,fun _ _=>rfl,hbe.2.2,dK _ _ _ _,fun k hk=>(by cases hk)⟩;have HC:=aV (aO hgl (aO hg (aO hg0 hcell)));clear hg hgl hg0 hcell hbe Vp c0;generalize hF:r.seen.length=F at*;have HF:=bB hF;clear hF
 have f0:(F:Int)<=900000000000:=by have:=HI.out.2.2.1;omega
 go_wp2_with fail
 go_loopw [3,5] (fun V i wr=>∃(j:Nat) (A':Nat->Nat),i=.int .i64 j/\j<=F/\yC A a t left fb r w (vT r (r.seen.take j)) V A' wr/\A' g=0/\w1.heap.size<=wr.heap.size/\wr.heap[g]?=w1.heap[g]?) (fun _ i _=>F-(intOf i).toNat)
 case atStart=>exact⟨0,A,rfl,aS _,FV.out,HC.out.2.2.1,ai _,rfl⟩
 case round=>
  obtain⟨j,A',rfl,hj,hst,hg0,hsz,hgk⟩:=hrel;have HST:=bB hst;have Yr:=aV (aO hg0 (aO hsz hgk));obtain⟨MS,xh,hv,_,_⟩:=bE hst.row;subst hv;clear hst hg0 hsz hgk
  have j0:(0:Int)<=(j:Int):=aJ
  by_cases hlt:j<F
  ·have j1:(j:Int)<(F:Int):=aJ
   obtain⟨x,hx⟩:∃x,r.seen[j]?=some x:=⟨r.seen[j]'(by have:=HF.out;omega),eB⟩
   have hxn:(r.seen.map (·.1))[j]?=some x.1:=by rw[dS,hx];rfl
   have CP:Hid ((vT r (r.seen.take j)).length<=900000000000):=by
    show _<=_;unfold vT;rw[jV];exact aC (pK _ _) (by rw[ic];omega)
   have Bu:Hid (vT r (r.seen.take (j+1))=if Ij x=true then vT r (r.seen.take j)++[(x.1,(dM r x.1).getD ⟨#[]⟩)] else vT r (r.seen.take j)):=by
    show _=_;unfold vT;rw[dU,hx,xP,iI]
    by_cases q:Ij x=true
    ·rw[aH q,show List.filter Ij (some x).toList=[x] from yx q];rfl
    rw[aA q,show List.filter Ij (some x).toList=[] from yw q,CV,fM]
   have HXS:=aV (HI.out.2.2.2 x (aU hx))
   have dP:Hid (wr.drew.cell? ⟨wb,0,none⟩=some (.pointer (some ⟨fb,0,none⟩))/\wr.drew.cell? ⟨g,j,none⟩=some (.string x.1)):=by
    refine⟨?_,?_⟩
    ·have h:wr.drew.heap[wb]?=w.heap[wb]?:=HST.out.turns.block wb HK.out.2.1 HK.out.1;rw[aF (w:=w) (a:=⟨wb,0,none⟩) h];exact HK.out.2.2
    have h:wr.drew.heap[g]?=w1.heap[g]?:=Yr.out.2.2;rw[aF (w:=w1) (a:=⟨g,j,none⟩) h];exact HC.out.2.2.2 j x.1 hxn
   have Yt:=bB (HST.out.below (ay wr.heap.size wr).drew);have CQ:=bB (xI Yt.out.base x.1 (by have:=HXS.out;omega));clear hx hxn;obtain⟨nm,d0⟩:=x;simp only at HXS dP CQ Bu;generalize hD:(dM r nm).getD ⟨#[]⟩=D at*;generalize hE:(if (dM r nm).isSome=true then (0:Int) else 2)=E at*;generalize hL:(vT r (r.seen.take j)).length=LN at*;have HL:=bB hL;clear hL hD hE
   go_wp2_with fail
   refine dJ (S:=fun w'=>w'.cell? ⟨wb,0,none⟩=some (.pointer (some ⟨fb,0,none⟩))/\w'.cell? ⟨g,j,none⟩=some (.string nm)) dD ?_;change wpAnyH _ _ _ _ _ _ _ _ (World.drew _);refine u3 0 (.pointer (some ⟨wb,0,none⟩)) rfl dP.out<|u3 1 (.pointer (some ⟨wb,0,none⟩)) rfl dP.out<|u3 2 (.pointer (some ⟨wb,0,none⟩)) rfl dP.out<|u3 3 (.pointer (some ⟨fb,0,none⟩)) rfl dP.out<|u3 4 (.slice (some ⟨g,0,none⟩) F F) rfl dP.out<|u3 5 (.int .i64 (j:Nat)) rfl dP.out<|u3 6 (.pointer (some ⟨g,j,none⟩)) rfl dP.out<|u3 7 (.string nm) rfl dP.out ?_
   refine rH 8 rfl fun K hK=>?_
   go_simp;refine CQ.out.mono ?_;rintro e5 w5 ⟨rfl,hb5⟩;have GX:=bB (Yt.out.read hb5);have HG5:Hid (w1.heap.size<=w5.heap.size/\w5.heap[g]?=w1.heap[g]?):=⟨aC Yr.out.2.1 hb5.2.2.size,(hb5.2.2.block g (aB HC.out.1 Yr.out.2.1) (by rw[Yr.out.1];decide)).trans Yr.out.2.2⟩
   have Jg:Hid (w5.cell? ⟨wb,0,none⟩=some (.pointer (some ⟨fb,0,none⟩))/\w5.cell? ⟨g,j,none⟩=some (.string nm)):=by
    refine⟨?_,?_⟩
    ·rw[aF (w:=w) (a:=⟨wb,0,none⟩) (GX.out.turns.block wb HK.out.2.1 HK.out.1)];exact HK.out.2.2
    have h:w5.heap[g]?=wr.drew.heap[g]?:=HG5.out.2.trans Yr.out.2.2.symm;rw[aF (w:=wr.drew) (a:=⟨g,j,none⟩) h];exact dP.out.2
   refine hK.out _ _ Jg.out (fun _=>?_);clear hK K hb5 CQ Yt dP;have dP:=Jg;refine u3 9 (.tuple #[.string D,.int .i64 E]) rfl dP.out<|u3 10 (.string D) rfl dP.out<|u3 11 (.int .i64 E) rfl dP.out<|u3 12 (.string D) rfl dP.out ?_
   refine rH 13 rfl fun K hK=>?_
   go_simp;refine hK.out _ _ dP.out (fun _=>?_);clear hK K;refine eX dD ?_ _;have cn:=Jg.out.2;clear Jg dP HST
   have t1:([46,108,111,103]:List UInt8)=jO.toList:=by rw[eG];rfl
   have t2:([46,108,111,103,46,110,101,119]:List UInt8)=gH.toList:=by rw[eG];rfl
   by_cases x1:nm=jO
   ·have y1:(nm.toList==[46,108,111,103])=true:=by rw[t1,AV];exact bT x1
    have Bc:Hid (vT r (r.seen.take (j+1))=vT r (r.seen.take j)):=by rw[Bu.out,aA (by unfold Ij;rw[bT x1];exact fu)];rfl
    clear t1 t2 x1
    go_wp2_with fail
    exact⟨⟨j+1,A',oW,aJ,by rw[Bc.out];exact GX.out,Yr.out.1,HG5.out⟩,by simp[intOf];omega⟩
   have y1:(nm.toList==[46,108,111,103])=false:=by rw[t1,AV];exact bM x1
   by_cases x2:nm=gH
   ·have y2:(nm.toList==[46,108,111,103,46,110,101,119])=true:=by rw[t2,AV];exact bT x2
    have Bc:Hid (vT r (r.seen.take (j+1))=vT r (r.seen.take j)):=by rw[Bu.out,aA (by unfold Ij;rw[bT x2,Bool.and_comm];exact fu)];rfl
    clear t1 t2 x1 x2
    go_wp2_with fail
    exact⟨⟨j+1,A',oW,aJ,by rw[Bc.out];exact GX.out,Yr.out.1,HG5.out⟩,by simp[intOf];omega⟩
   have y2:(nm.toList==[46,108,111,103,46,110,101,119])=false:=by rw[t2,AV];exact bM x2
   have Bc:Hid (vT r (r.seen.take (j+1))=vT r (r.seen.take j)++[(nm,D)]):=by rw[Bu.out,aH (by unfold Ij;rw[bM x1,bM x2];rfl)];rfl
   clear t1 t2 x1 x2;have NA:=aV (iM w5 [.string nm,.string D] 77);have IG:=bB (GX.out.below ((ay w5.heap.size w5).alloc (ai _) (.cells #[.string nm,.string D] 77)))
   have Da:Hid ((w5.alloc (.cells #[.string nm,.string D] 77)).ownsRow w.heap.size 77 2 (.slice MS LN xh) LN (uw (vT r (r.seen.take j)))):=by have h:=IG.out.row;rw[HL.out] at h;exact h
   have hll:LN<=900000000000:=CP.out;have hws:w.heap.size<=(w5.alloc (.cells #[.string nm,.string D] 77)).heap.size:=IG.out.turns.size
   go_wp2_with (at_builtin;refine wpList_append_lies _ rfl (.tmp 43) (.tmp 50) 39 rfl w.heap.size 77 ti (.agg #[.string ⟨#[]⟩,.string ⟨#[]⟩]) 2 32 Tryz.underlying39 HTI.out.1 HTI.out.2.2.2 HTI.out.2.1 HTI.out.2.2.1 rfl bS _ LN (uw (vT r (r.seen.take j))) rfl Da.out ⟨w5.heap.size,0,none⟩ 1 1 [.string nm,.string D] rfl rfl NA.out (by intro u hu;simp only[bg,dH,kz] at hu;rcases hu with rfl|rfl<;>rfl) bS (by unfold maxLen;omega) aJ (by exact hws) _ rfl ?_;intro g7 lW w7 hv7 wW rF xu;refine dO ?_)
   obtain⟨A7,hs7,ha7⟩:=IG.out.add (x:=(nm,D)) HL.out wW rF hv7
   have HS7:Hid (yC A a t left fb r w (vT r (r.seen.take (j+1))) (.slice (some ⟨g7,0,none⟩) (LN+1) lW) A7 w7/\A7 g=0/\w1.heap.size<=w7.heap.size/\w7.heap[g]?=w1.heap[g]?):=by
    have hg5:g<w5.heap.size:=aB HC.out.1 HG5.out.1;refine⟨by rw[Bc.out];exact hs7,?_,aC HG5.out.1 (aC (by rw[bO];exact fH _) wW.size),?_⟩
    ·rw[ha7 g (by rw[bO];omega)];exact Yr.out.1
    refine(wW.block g (by rw[bO];omega) (fun e=>?_)).trans ((bC _ _ g hg5).trans HG5.out.2);have:=IG.out.col g e.symm;rw[Yr.out.1] at this
    cases this
   clear hv7 wW rF xu hs7 ha7 Da NA IG hws;unfold Hid
   go_wp2_with fail
   exact⟨⟨j+1,A7,oW,aJ,HS7.out⟩,by simp[intOf];omega⟩
  obtain rfl:j=F:=aJ
  have Bc:Hid (yC A a t left fb r w (vT r r.seen) (.slice MS (vT r (r.seen.take j)).length xh) A' wr):=by
   have h:=HST.out;rw[bK (dG HF.out)] at h⊢;exact h
  generalize (vT r (r.seen.take j)).length=LN at*;clear HST
  go_wp2_with fail
  go_ret;exact⟨_,A',rfl,Bc.out⟩
end
theorem OC:eU jO=true:=bS
theorem OD:eU gH=true:=bS
structure tY(r:bY)(L:kD)(l:List gG):Prop where
 file:dM r jO=some (jv++gm l)
 recs:∀x∈l,lU x/\eU x.name=true
 book:L=qQ l
theorem SE:∀(l:List gG) (L:kD) (x:ah) (r:gG),(l.foldl jd L).last x=some r->r∈l\/L.last x=some r
 |[],L,x,r,h=>aP h
 |q::l,L,x,r,h=>by
  rcases SE l (jd L q) x r h with h|h
  ·exact aK (aZ _ h)
  have h':(if x=q.name then some q else L.last x)=some r:=h
  split at h'
  ·exact aK (by rw[ax h'];exact aQ ..)
  exact aP h'
variable {l:List gG}
theorem Zw{r:gG}(h:r∈kr (qQ l)):r∈l:=by
 obtain⟨x,_,hx⟩:=jw.1 h
 rcases SE l _ x r hx with h|h
 ·exact h
 cases h
variable {x:ah}
theorem vz(h:mP x=true):eU x=true/\x≠jO/\x≠gH:=by
 unfold mP at h;rw[rf,rf] at h;exact⟨h.1.1,⟨(fun e=>by rw[bT e] at h;exact absurd h.1.2 bS),(fun e=>by rw[bT e] at h;exact absurd h.2 bS)⟩⟩
variable {r:bY}
theorem Up.wr(h:Up r)(d:ah)(hx:eU x=true):eP r x d=(3,r)\/∃r',eP r x d=(0,r')/\Up r'/\∀y,dM r' y=if y=x then some d else dM r y:=by
 rw[h.write hx]
 split
 ·exact aK rfl
 exact aP ⟨_,rfl,⟨h.down,h.lit⟩,fun y=>Ti r x d y _⟩
theorem Up.ap(h:Up r)(d:ah)(hx:eU x=true):kQ r x d=(3,r)\/∃r',kQ r x d=(0,r')/\Up r'/\∀y,dM r' y=if y=x then some ((dM r x).getD ⟨#[]⟩++d) else dM r y:=by
 rw[h.append hx]
 split
 ·exact aK rfl
 exact aP ⟨_,rfl,⟨h.down,h.lit⟩,fun y=>Qr r x d y _⟩
theorem Up.rn(h:Up r){z d:ah}(hx:eU x=true)(hz:eU z=true)(hd:dM r x=some d):∃r',kR r x z=(0,r')/\Up r'/\∀y,dM r' y=if y=z then some d else if y=x then none else dM r y:=by
 rw[h.rename hx hz,aA (fun e=>by unfold dM at hd;rw[aH e] at hd;cases hd)];exact⟨_,rfl,⟨h.down,h.lit⟩,fun y=>by have e:=Qs r x z y (r.wait++[⟨3,x,z⟩]);rw[hd] at e;exact e⟩
theorem Up.sy(h:Up r):∃r',iX r=(0,r')/\Up r'/\∀y,dM r' y=dM r y:=⟨_,h.sync,⟨h.down,h.lit⟩,fun _=>rfl⟩
variable {J:fB}
theorem Uo(hu:Up J.r)(hL:J.L=qQ l)(hr:∀x∈l,lU x/\eU x.name=true):(qC J).1=3\/∃r',qC J=(0,{J with r:=r',L:=qQ (kr J.L)})/\Up r'/\tY r' (qQ (kr J.L)) (kr J.L)/\∀y,y≠jO->y≠gH->dM r' y=dM J.r y:=by
 unfold qC
 simp only
 rcases hu.wr (jv++gm (kr J.L)) OD with h|⟨r1,h,hu1,hr1⟩
 ·left
  rw[h,aH (show(3:Int)≠0 by decide)]
 right
 obtain⟨r2,h2,hu2,hr2⟩:=hu1.sy
 have ht:dM r2 gH=some (jv++gm (kr J.L)):=by rw[hr2,hr1,aH rfl]
 obtain⟨r3,h3,hu3,hr3⟩:=hu2.rn OD OC ht;obtain⟨r4,h4,hu4,hr4⟩:=hu3.sy;rw[h]
 simp only
 rw[h2,aA (fun e=>e rfl)]
 simp only
 rw[h3,aA (fun e=>e rfl)]
 simp only
 rw[h4,aA (fun e=>e rfl)];refine⟨r4,rfl,hu4,⟨?_,fun x hx=>hr x (Zw (by rw[<-hL];exact hx)),rfl⟩,fun y h1 h2=>?_⟩
 ·rw[hr4,hr3,aH rfl]
 rw[hr4,hr3,aA h1,aA h2,hr2,hr1,aA h2]
theorem Pk:∀(outs:List ah) (r:bY) (d:ah),Up r->(∀x∈outs,mP x=true)->(qO r outs d).1=3\/∃r',qO r outs d=(0,r')/\Up r'/\(∀y∈outs,dM r' y=some d)/\∀y,y∉outs->dM r' y=dM r y
 |[],r,d,hu,_=>aP ⟨r,rfl,hu,fun y hy=>(by cases hy),fun _ _=>rfl⟩
 |x::l,r,d,hu,hn=>by
  unfold qO
  rcases hu.wr d (vz (hn x (aQ ..))).1 with h|⟨r1,h,hu1,hr1⟩
  ·left
   rw[h,aA (show¬(3:Int)=0 by decide)]
  rw[h,aH rfl]
  rcases Pk l r1 d hu1 (fun y hy=>hn y (aZ _ hy)) with h|⟨r',h1,h2,h3,h4⟩
  ·exact aK h
  refine aP ⟨r',h1,h2,fun y hy=>?_,fun y hy=>?_⟩
  ·by_cases hl:y∈l
   ·exact h3 y hl
   rcases bg.1 hy with rfl|hy
   ·rw[h4 y hl,hr1,aH rfl]
   exact absurd hy hl
  rw[h4 y (fun q=>hy (aZ _ q)),hr1,aA (fun e=>hy (by rw[e];exact aQ ..))]
theorem Gq(sig sum:ah):∀(outs:List ah) (L:kD) (y:ah),(y∈outs->((nW outs sig sum).foldl jd L).last y=some ⟨y,sig,sum⟩)/\(y∉outs->((nW outs sig sum).foldl jd L).last y=L.last y)
 |[],L,y=>⟨fun h=>(by cases h),fun _=>rfl⟩
 |x::outs,L,y=>by
  have ih:=Gq sig sum outs (jd L ⟨x,sig,sum⟩) y;have hn:(jd L ⟨x,sig,sum⟩).last y=if y=x then some ⟨x,sig,sum⟩ else L.last y:=rfl;refine⟨fun h=>?_,fun h=>?_⟩
  ·by_cases hl:y∈outs
   ·exact ih.1 hl
   rcases bg.1 h with rfl|h
   ·exact(ih.2 hl).trans (hn.trans (aH rfl))
   exact absurd h hl
  exact(ih.2 (fun q=>h (aZ _ q))).trans (hn.trans (aA (fun e=>h (by rw[e];exact aQ ..))))
theorem adV{L:kD}(hu:Up r)(hL:tY r L l){outs:List ah}(hn:∀x∈outs,mP x=true)(made:ah){sig:ah}(hs:sig.size=32):(vW r L outs made sig).1=3\/∃r',vW r L outs made sig=(0,r',(nW outs sig (gW made)).foldl jd L)/\Up r'/\tY r' ((nW outs sig (gW made)).foldl jd L) (l++nW outs sig (gW made))/\(∀y∈outs,dM r' y=some made)/\∀y,y∉outs->y≠jO->dM r' y=dM r y:=by
 unfold vW
 simp only
 rcases Pk outs r made hu hn with h|⟨r1,h1,hu1,h3,h4⟩
 ·left
  rw[aH (by rw[h];decide)];exact h
 obtain⟨r2,h2,hu2,hr2⟩:=hu1.sy;rw[h1,aA (fun e=>e rfl)]
 simp only
 rw[h2,aA (fun e=>e rfl)]
 simp only
 have hno:jO∉outs:=fun q=>(vz (hn _ q)).2.1 rfl
 rcases hu2.ap (gm (nW outs sig (gW made))) OC with h|⟨r3,h5,hu3,hr3⟩
 ·left
  rw[h,aH (show(3:Int)≠0 by decide)]
 right
 obtain⟨r4,h6,hu4,hr4⟩:=hu3.sy;rw[h5,aA (fun e=>e rfl)]
 simp only
 rw[h6];refine⟨r4,rfl,hu4,⟨?_,fun x hx=>?_,?_⟩,fun y hy=>?_,fun y h1 h2=>?_⟩
 ·rw[hr4,hr3,aH rfl,hr2,h4 _ hno,hL.file,ZU,dm,dN]
 ·rcases bQ.1 hx with hx|hx
  ·exact hL.recs x hx
  refine⟨Tj (fun y hy=>(fI (vz (hn y hy)).1).2.1) hs (kS _) x hx,?_⟩;obtain⟨y,hy,rfl⟩:=fP.1 hx;exact(vz (hn y hy)).1
 ·rw[hL.book];unfold qQ;rw[yZ]
 ·rw[hr4,hr3,aA (fun e=>hno (by rw[<-e];exact hy)),hr2,h3 y hy]
 rw[hr4,hr3,aA h2,hr2,h4 y h1]
variable {e:dA}
theorem Jl(cm:ah)(hu:Up J.r)(hL:tY J.r J.L l)(hn:Af e):(dZ J e cm).1.2=3\/((dZ J e cm).1.2=0/\(((dZ J e cm).2=J/\(dZ J e cm).1.1≠0)\/((dZ J e cm).1.1=0/\∃r' L' l' made,(dZ J e cm).2={J with r:=r',L:=L'}/\Up r'/\tY r' L' l'/\(∀y∈e.outs,dM r' y=some made/\L'.last y=some ⟨y,DY (iB J.r (fU e)) e cm,gW made⟩)/\∀y,y∉e.outs->y≠jO->dM r' y=dM J.r y/\L'.last y=J.L.last y))):=by
 unfold dZ
 split
 ·exact aP ⟨rfl,aK ⟨rfl,show(3:Nat)≠0 by decide⟩⟩
 split
 ·exact aP ⟨rfl,aK ⟨rfl,show(2:Nat)≠0 by decide⟩⟩
 simp only
 split
 ·exact aP ⟨rfl,aK ⟨rfl,show(1:Nat)≠0 by decide⟩⟩
 split
 ·exact aP ⟨rfl,aK ⟨rfl,show(2:Nat)≠0 by decide⟩⟩
 rename_i made _
 rcases adV hu hL hn.1 made (sig:=DY (iB J.r (fU e)) e cm) (kS _) with h|⟨r',h1,h2,h3,h4,h5⟩
 ·exact aK h
 rw[h1];refine aP ⟨rfl,aP ⟨rfl,r',_,_,made,rfl,h2,h3,fun y hy=>⟨h4 y hy,(Gq _ _ _ _ y).1 hy⟩,fun y hy hl=>⟨h5 y hy hl,(Gq _ _ _ _ y).2 hy⟩⟩⟩
theorem JM{l:List ah}{f g:ah->Bool}(h:∀x∈l,f x=g x):l.all f=l.all g:=by
 induction l with
 |nil=>rfl
 |cons x l ih=>rw[Be,Be,h x (aQ ..),ih (fun y hy=>h y (aZ _ hy))]
theorem VO{K:fB}{cm:ah}(hu:Up J.r)(hL:tY J.r J.L l)(hn:Af e)(h0:(dZ J e cm).1.2=0)(hun:K.un=J.un)(air:∀y∈eO e,dM K.r y=dM J.r y)(hout:∀y∈e.outs,dM K.r y=dM (dZ J e cm).2.r y/\K.L.last y=(dZ J e cm).2.L.last y):dZ K e cm=((if (dZ J e cm).1.1=0 then 1 else (dZ J e cm).1.1,0),K):=by
 have hi:∀y∈fU e,dM K.r y=dM J.r y:=fun y hy=>air y (by unfold fU at hy;unfold eO;rw[<-eZ];exact fD _ hy)
 have e2:jI K.r (fU e)=jI J.r (fU e):=JM (fun y hy=>by rw[hi y hy]);have e3:jI K.r e.ord=jI J.r e.ord:=JM (fun y hy=>by rw[air y (by unfold eO;rw[<-eZ];exact lV _ hy)])
 have e4:iB K.r (fU e)=iB J.r (fU e):=by
  funext x
  unfold iB
  split
  ·rename_i hx
   exact hi x (mY.1 hx)
  rfl
 have hE:=Jl cm hu hL hn
 have hsame:(dZ J e cm).2=J->wQ K.r K.L e.outs (DY (iB J.r (fU e)) e cm)=wQ J.r J.L e.outs (DY (iB J.r (fU e)) e cm):=fun hq=>JM (fun y hy=>by
  unfold qN
  rw[(hout y hy).1,(hout y hy).2,hq])
 unfold dZ;rw[hun,e2,e3];simp only[e4];unfold dZ at hE hsame h0;simp only at hE hsame h0
 by_cases c1:((eO e).any fun x=>fo x J.un)=true
 ·rw[aH c1];rw[aH c1,aA (show¬(3:Nat)=0 by decide)]
 rw[aA c1] at hE hsame h0⊢;rw[aA c1]
 by_cases c2:(jI J.r (fU e)&&jI J.r e.ord)=false
 ·rw[aH c2,aH c2,aA (show¬(2:Nat)=0 by decide)]
 rw[aA c2] at hE hsame h0⊢;rw[aA c2]
 by_cases c3:wQ J.r J.L e.outs (DY (iB J.r (fU e)) e cm)=true
 ·rw[aH c3] at hsame;rw[aH c3,hsame rfl,aH c3,aA (show¬(1:Nat)=0 by decide)]
 rw[aA c3] at hE hsame h0⊢
 cases hc:iY (qc (iB J.r (fU e)) (nT cm)) with
 |none=>
  rw[hc] at hsame;simp only at hsame⊢;rw[hsame trivial,aA c3,aA (show¬(2:Nat)=0 by decide)]
 |some made=>
  rw[hc] at hE h0;simp only at hE h0⊢
  rcases hE with h|⟨_,⟨_,h⟩|⟨_,r',L',l',made',h2,_,_,h5,_⟩⟩
  ·rw[h0] at h;cases h
  ·exact absurd rfl h
  refine(aH ?_).trans (by rw[aH trivial])
  have hJ:(dZ J e cm).2={J with r:=r',L:=L'}:=by
   unfold dZ;rw[aA c1,aA c2]
   simp only
   rw[aA c3,hc];exact h2
  refine vQ.2 (fun y hy=>?_);have h6:=hout y hy;rw[hJ] at h6;unfold qN;rw[h6.1,h6.2]
  simp only
  rw[(h5 y hy).1,(h5 y hy).2]
  simp
def Ry:List (dA×ah)->Prop
 |[]=>True
 |x::l=>(∀y∈eO x.1,y∉x.1.outs/\∀z∈l,y∉z.1.outs)/\(∀y∈x.1.outs,∀z∈l,y∉z.1.outs)/\Ry l
theorem Qt(J:fB)(e:dA)(c:Nat):(lH J e c).r=J.r/\(lH J e c).L=J.L:=by
 unfold lH
 split<;>exact⟨rfl,rfl⟩
theorem NY{recs:List gG}(cm:ah)(hu:Up J.r)(hL:tY J.r J.L recs)(hn:Af e)(h0:(dZ J e cm).1.2=0):Up (dZ J e cm).2.r/\(∃Fy,tY (dZ J e cm).2.r (dZ J e cm).2.L Fy)/\∀y,mP y=true->y∉e.outs->dM (dZ J e cm).2.r y=dM J.r y/\(dZ J e cm).2.L.last y=J.L.last y:=by
 rcases Jl cm hu hL hn with h|⟨_,⟨h,_⟩|⟨_,r',L',l',made,h,h1,h2,h3,h4⟩⟩
 ·rw[h0] at h;cases h
 ·rw[h];exact⟨hu,⟨_,hL⟩,fun _ _ _=>⟨rfl,rfl⟩⟩
 rw[h];exact⟨h1,⟨_,h2⟩,fun y hy ho=>h4 y ho (vz hy).2.1⟩
theorem Qx:∀(l:List (dA×ah)) (J:fB) (recs:List gG),Up J.r->tY J.r J.L recs->(∀x∈l,Af x.1)->(ko J l).1=3\/((ko J l).1=0/\Up (ko J l).2.r/\(∃Fy,tY (ko J l).2.r (ko J l).2.L Fy)/\∀y,mP y=true->(∀x∈l,y∉x.1.outs)->dM (ko J l).2.r y=dM J.r y/\(ko J l).2.L.last y=J.L.last y)
 |[],J,recs,hu,hL,_=>aP ⟨rfl,hu,⟨recs,hL⟩,fun _ _ _=>⟨rfl,rfl⟩⟩
 |x::l,J,recs,hu,hL,hn=>by
  have hx:=hn x (aQ ..);unfold ko
  rcases Jl x.2 hu hL hx with h|⟨h0,_⟩
  ·left
   rw[aA (by rw[h];decide)];exact h
  rw[aH h0];obtain⟨g1,⟨Fy,g2⟩,g3⟩:=NY x.2 hu hL hx h0;have ht:=Qt (dZ J x.1 x.2).2 x.1 (dZ J x.1 x.2).1.1
  rcases Qx l (lH (dZ J x.1 x.2).2 x.1 (dZ J x.1 x.2).1.1) Fy (by rw[ht.1];exact g1) (by rw[ht.1,ht.2];exact g2) (fun y hy=>hn y (aZ _ hy)) with h|⟨h1,h2,h3,h4⟩
  ·exact aK h
  refine aP ⟨h1,h2,h3,fun y hy ho=>?_⟩;have k1:=h4 y hy (fun z hz=>ho z (aZ _ hz));have k2:=g3 y hy (ho x (aQ ..));rw[ht.1,ht.2] at k1;exact⟨k1.1.trans k2.1,k1.2.trans k2.2⟩
theorem KQ:∀(l:List (dA×ah)) (J K:fB) (recs:List gG),Up J.r->tY J.r J.L recs->(∀x∈l,Af x.1)->Ry l->(ko J l).1=0->K.un=J.un->(∀y,mP y=true->dM K.r y=dM (ko J l).2.r y)->(∀y,K.L.last y=(ko J l).2.L.last y)->K.fa=J.fa->K.bl=J.bl->K.cl.length=J.ran.length+J.cl.length->
  ∃K',ko K l=(0,K')/\K'.r=K.r/\K'.L=K.L/\K'.ran=K.ran/\K'.fa=(ko J l).2.fa/\K'.bl=(ko J l).2.bl/\K'.cl.length=(ko J l).2.ran.length+(ko J l).2.cl.length
 |[],J,K,_,_,_,_,_,_,_,_,_,h1,h2,h3=>⟨K,rfl,rfl,rfl,rfl,h1,h2,h3⟩
 |x::l,J,K,recs,hu,hL,hn,hA,h0,hun,hr,hl,h1,h2,h3=>by
  have hx:=hn x (aQ ..)
  have hn':∀y∈l,Af y.1:=fun y hy=>hn y (aZ _ hy)
  unfold ko at h0 hr hl⊢
  by_cases c0:(dZ J x.1 x.2).1.2=0
  ·rw[aH c0] at h0 hr hl;obtain⟨g1,⟨Fy,g2⟩,g3⟩:=NY x.2 hu hL hx c0;have ht:=Qt (dZ J x.1 x.2).2 x.1 (dZ J x.1 x.2).1.1
   have hu':Up (lH (dZ J x.1 x.2).2 x.1 (dZ J x.1 x.2).1.1).r:=by rw[ht.1];exact g1
   have hL':tY (lH (dZ J x.1 x.2).2 x.1 (dZ J x.1 x.2).1.1).r (lH (dZ J x.1 x.2).2 x.1 (dZ J x.1 x.2).1.1).L Fy:=by rw[ht.1,ht.2];exact g2
   rcases Qx l _ Fy hu' hL' hn' with h|⟨_,_,_,h4⟩
   ·rw[h0] at h;cases h
   rw[ht.1,ht.2] at h4
   have hE:=VO (K:=K) hu hL hx c0 hun (fun y hy=>by
    have q:=hA.1 y hy
    rw[hr y (hx.2 y hy),(h4 y (hx.2 y hy) q.2).1,(g3 y (hx.2 y hy) q.1).1]) (fun y hy=>by
    have q:=h4 y (hx.1 y hy) (hA.2.1 y hy);rw[hr y (hx.1 y hy),hl,q.1,q.2]
    exact⟨rfl,rfl⟩)
   rw[hE,aH rfl,aH c0]
   simp only
   have hJ:(dZ J x.1 x.2).2.un=J.un/\(dZ J x.1 x.2).2.ran=J.ran/\(dZ J x.1 x.2).2.cl=J.cl/\(dZ J x.1 x.2).2.fa=J.fa/\(dZ J x.1 x.2).2.bl=J.bl:=by
    rcases Jl x.2 hu hL hx with h|⟨_,⟨h,_⟩|⟨_,r',L',l',made,h,_⟩⟩
    ·rw[c0] at h;cases h
    ·rw[h];exact⟨rfl,rfl,rfl,rfl,rfl⟩
    rw[h];exact⟨rfl,rfl,rfl,rfl,rfl⟩
   have htk:=Qt K x.1 (if (dZ J x.1 x.2).1.1=0 then 1 else (dZ J x.1 x.2).1.1)
   have hlist:(lH K x.1 (if (dZ J x.1 x.2).1.1=0 then 1 else (dZ J x.1 x.2).1.1)).un=(lH (dZ J x.1 x.2).2 x.1 (dZ J x.1 x.2).1.1).un/\(lH K x.1 (if (dZ J x.1 x.2).1.1=0 then 1 else (dZ J x.1 x.2).1.1)).fa=(lH (dZ J x.1 x.2).2 x.1 (dZ J x.1 x.2).1.1).fa/\(lH K x.1 (if (dZ J x.1 x.2).1.1=0 then 1 else (dZ J x.1 x.2).1.1)).bl=(lH (dZ J x.1 x.2).2 x.1 (dZ J x.1 x.2).1.1).bl/\(lH K x.1 (if (dZ J x.1 x.2).1.1=0 then 1 else (dZ J x.1 x.2).1.1)).cl.length=(lH (dZ J x.1 x.2).2 x.1 (dZ J x.1 x.2).1.1).ran.length+(lH (dZ J x.1 x.2).2 x.1 (dZ J x.1 x.2).1.1).cl.length/\(lH K x.1 (if (dZ J x.1 x.2).1.1=0 then 1 else (dZ J x.1 x.2).1.1)).ran=K.ran:=by
    generalize (dZ J x.1 x.2).1.1=c;generalize (dZ J x.1 x.2).2=J1 at hJ;obtain⟨j1,j2,j3,j4,j5⟩:=hJ
    match c with
    |0=>simp[lH,hun,h1,h2,h3,j1,j2,j3,j4,j5];omega
    |1=>simp[lH,hun,h1,h2,h3,j1,j2,j3,j4,j5];omega
    |2=>simp[lH,hun,h1,h2,h3,j1,j2,j3,j4,j5]
    |c+3=>simp[lH,hun,h1,h2,h3,j1,j2,j3,j4,j5]
   obtain⟨K',k1,k2,k3,k4,k5⟩:=KQ l _ (lH K x.1 (if (dZ J x.1 x.2).1.1=0 then 1 else (dZ J x.1 x.2).1.1)) Fy hu' hL' hn' hA.2.2 h0 hlist.1 (fun y hy=>by rw[htk.1];exact hr y hy) (fun y=>by rw[htk.2];exact hl y) hlist.2.1 hlist.2.2.1 hlist.2.2.2.1;exact⟨K',k1,k2.trans htk.1,k3.trans htk.2,k4.trans hlist.2.2.2.2,k5⟩
  rw[aA c0] at h0;exact absurd h0 c0
theorem ad5(hu:Up r):(oO (oH r)).1=3\/∃r' L' l',oO (oH r)=(0,⟨r',L',[],[],[],[],[]⟩)/\Up r'/\tY r' L' l':=by
 unfold oH oO
 simp only
 have hok:=Xe ((dM r jO).getD ⟨#[]⟩)
 by_cases hq:(iC ((dM r jO).getD ⟨#[]⟩)).2=true
 ·right
  rw[aH hq];refine⟨r,_,_,rfl,hu,⟨?_,hok,rfl⟩⟩;have h:=Um (t:=(dM r jO).getD ⟨#[]⟩) (l:=(iC ((dM r jO).getD ⟨#[]⟩)).1) (by rw[<-hq])
  cases hj:dM r jO with
  |none=>
   rw[hj] at h;have:=ig ByteArray.size h;rw[aL] at this;have h12:jv.size=12:=rfl;have h0:((none:Option ah).getD ⟨#[]⟩).size=0:=rfl;omega
  |some d=>
   rw[hj] at h;exact ig some h
 rw[aA hq]
 rcases Uo (J:=⟨r,qQ (iC ((dM r jO).getD ⟨#[]⟩)).1,[],[],[],[],[]⟩) hu rfl hok with h|⟨r',h,h1,h2,_⟩
 ·exact aK h
 exact aP ⟨r',_,_,h,h1,h2⟩
theorem YD(hu:Up r){l:List (dA×ah)}(hn:∀x∈l,Af x.1)(hA:Ry l):(qM (oH r) l).1=3\/((qM (oH r) l).1=0/\∃K,qM ⟨(qM (oH r) l).2.r,kD.none,[],[],[],[],[]⟩ l=(0,K)/\K.r=(qM (oH r) l).2.r/\K.ran=[]/\K.cl.length=(qM (oH r) l).2.ran.length+(qM (oH r) l).2.cl.length/\K.fa=(qM (oH r) l).2.fa/\K.bl=(qM (oH r) l).2.bl):=by
 rcases ad5 hu with h|⟨r1,L1,l1,hO,hu1,hL1⟩
 ·left
  unfold qM;rw[aA (by rw[h];decide)];exact h
 rcases Qx l ⟨r1,L1,[],[],[],[],[]⟩ l1 hu1 hL1 hn with h|⟨h0,hu2,⟨l2,hL2⟩,_⟩
 ·left
  unfold qM;rw[hO,aH rfl,aA (by rw[h];decide)];exact h
 have hag:=KQ l ⟨r1,L1,[],[],[],[],[]⟩;have hJ2:∃J2,ko ⟨r1,L1,[],[],[],[],[]⟩ l=(0,J2):=⟨_,by rw[<-h0]⟩;obtain⟨J2,hJ2⟩:=hJ2;rw[hJ2] at hu2 hL2 hag;simp only at hu2 hL2 hag
 have key:∀r3 L3 l3,Up r3->tY r3 L3 l3->(∀y,mP y=true->dM r3 y=dM J2.r y)->(∀y,L3.last y=J2.L.last y)->yG L3=false->∃K,qM ⟨r3,kD.none,[],[],[],[],[]⟩ l=(0,K)/\K.r=r3/\K.ran=[]/\K.cl.length=J2.ran.length+J2.cl.length/\K.fa=J2.fa/\K.bl=J2.bl:=by
  intro r3 L3 l3 hu3 hL3 hr3 hl3 hs3;obtain⟨K',k1,k2,k3,k4,k5,k6,k7⟩:=hag ⟨r3,L3,[],[],[],[],[]⟩ l1 hu1 hL1 hn hA trivial rfl hr3 hl3 rfl rfl rfl
  have hO3:oO ⟨r3,kD.none,[],[],[],[],[]⟩=(0,⟨r3,L3,[],[],[],[],[]⟩):=by
   unfold oO
   simp only
   rw[hL3.file,dm,QV l3 hL3.recs,aH rfl,hL3.book]
  refine⟨K',?_,k2,k4,k7,k5,k6⟩;unfold qM;rw[hO3,aH rfl]
  simp only
  rw[k1,aH rfl,aA (by rw[k3,hs3];decide)]
 have alu:qM (oH r) l=if yG J2.L=true then qC J2 else (0,J2):=by
  unfold qM;rw[hO,aH rfl]
  simp only
  rw[hJ2,aH rfl]
 rw[alu]
 by_cases hs:yG J2.L=true
 ·rw[aH hs]
  rcases Uo hu2 hL2.book hL2.recs with h|⟨r',h,h1,h2,h3⟩
  ·exact aK h
  right
  have hlk:wU J2.L:=by rw[hL2.book];exact adX _
  obtain⟨m1,m2,m3⟩:=WE hlk;rw[h];refine⟨rfl,key r' _ _ h1 h2 (fun y hy=>h3 y (vz hy).2.1 (vz hy).2.2) (fun y=>by rw[m1]) ?_⟩;unfold yG;rw[m2,m3];exact bM aJ
 rw[aA hs];exact aP ⟨rfl,key J2.r J2.L l2 hu2 hL2 (fun _ _=>rfl) (fun _=>rfl) (by simpa using hs)⟩
variable {es:List dA}{cs:List ah}
theorem Ec{ps:List Nat}{z:dA×ah}(h:z∈iq es cs ps):∃q∈ps,es[q]?=some z.1:=by
 obtain⟨q,hq,h⟩:=jw.1 h;obtain⟨e,he,h⟩:=rC.1 h;obtain⟨c,_,rfl⟩:=bA.1 h;exact⟨q,hq,he⟩
theorem WH(ho:(es.flatMap (·.outs)).Nodup){p:Nat}(he:es[p]?=some e)(hx:x∈e.outs):fK es x=some p:=by
 cases hm:fK es x with
 |none=>
  unfold fK at hm;have:=List.findIdx?_eq_none_iff.1 hm e (aU he);rw[mY.2 hx] at this
  cases this
 |some q=>
  obtain⟨f,hf,hxf⟩:=WG hm;rw[Ee ho he hf hx hxf]
theorem ED{o:List Nat}(ho:(es.flatMap (·.outs)).Nodup)(hnd:o.Nodup)(hah:∀i p e,o[i]?=some p->es[p]?=some e->∀x∈eO e,∀m,fK es x=some m->m∈o.take i):∀(suf pre:List Nat),o=pre++suf->Ry (iq es cs suf)
 |[],pre,_=>trivial
 |p::suf,pre,he=>by
  have ih:Ry (iq es cs suf):=ED ho hnd hah suf (pre++[p]) (by rw[he,eZ];rfl)
  have hsplit:iq es cs (p::suf)=(((es[p]?).bind fun e=>(cs[p]?).map fun c=>(e,c)).toList)++iq es cs suf:=by
   unfold iq;rw[Cn]
   cases (es[p]?).bind fun e=>(cs[p]?).map fun c=>(e,c)<;>rfl
  rw[hsplit]
  cases hx:(es[p]?).bind fun e=>(cs[p]?).map fun c=>(e,c) with
  |none=>exact ih
  |some x=>
   obtain⟨e,hep,hx⟩:=rC.1 hx;obtain⟨c,_,rfl⟩:=bA.1 hx;rw[he,nk] at hnd;have hpn:=nC.1 hnd.2.1
   have hat:o[pre.length]?=some p:=by rw[he];simp
   have htk:o.take pre.length=pre:=by rw[he];simp
   have hmk:∀y∈eO e,∀q,q∈p::suf->∀f,es[q]?=some f->y∉f.outs:=fun y hy q hq f hf hyf=>by
    have h1:=hah _ _ _ hat hep y hy q (WH ho hf hyf);rw[htk] at h1;exact hnd.2.2 q h1 q hq rfl
   refine⟨fun y hy=>⟨hmk y hy p (aQ ..) e hep,fun z hz=>?_⟩,fun y hy z hz hyz=>?_,ih⟩
   ·obtain⟨q,hq,hf⟩:=Ec hz;exact hmk y hy q (aZ _ hq) _ hf
   obtain⟨q,hq,hf⟩:=Ec hz;have:=Ee ho hep hf hy hyz;subst this;exact hpn.1 hq
theorem Pf(hu:Up r)(t:ah)(ts:List ah):(ow r t ts).1.1=3\/((ow r t ts).1.1≠0/\(ow r t ts).2.r=r)\/((ow r t ts).1.1=0/\∃K,ow (ow r t ts).2.r t ts=((0,-1),K)/\K.r=(ow r t ts).2.r/\K.ran=[]/\K.cl.length=(ow r t ts).2.ran.length+(ow r t ts).2.cl.length/\K.fa=(ow r t ts).2.fa/\K.bl=(ow r t ts).2.bl):=by
 unfold ow
 cases hp:jZ t with
 |error bk=>exact aP (aK ⟨(show(BG bk.1:Nat)+1≠(0:Int) by omega),rfl⟩)
 |ok Sc=>
  obtain⟨S,cs⟩:=Sc
  simp only
  cases ho:wR S ts with
  |error b=>
   cases b
   ·exact aP (aK ⟨(show(8:Int)≠0 by decide),rfl⟩)
   exact aP (aK ⟨(show(9:Int)≠0 by decide),rfl⟩)
  |ok ps=>
   simp only
   have hok:=La ho;have hk:=zw hp;have hnm:=BU hp
   rcases YD hu (l:=iq S.bG cs ps) (fun x hx=>by
    obtain⟨q,_,hq⟩:=Ec hx
    exact hnm.1 _ (aU hq)) (ED hk.once hok.nd hok.ahead ps [] rfl) with h|⟨h,K,h1,h2⟩
   ·exact aK h
   refine aP (aP ⟨h,K,?_,h2⟩);have h1':=h1;unfold oH at h1'⊢;rw[h1']
def FB(J:fB):Nat:=J.ran.length+J.cl.length+J.fa.length+J.bl.length
theorem NZ(J:fB)(e:dA)(cm:ah):FB (dZ J e cm).2=FB J:=by
 unfold dZ
 split
 ·rfl
 split
 ·rfl
 simp only
 split
 ·rfl
 split<;>rfl
theorem aah(J:fB)(e:dA)(c:Nat):FB (lH J e c)=FB J+1:=by
 unfold lH FB
 split<;>simp only[aI,aY,dY]<;>omega
theorem Ox:∀(l:List (dA×ah)) (J:fB),FB (ko J l).2<=FB J+l.length
 |[],J=>ai _
 |x::l,J=>by
  unfold ko
  split
  ·have h:=Ox l (lH (dZ J x.1 x.2).2 x.1 (dZ J x.1 x.2).1.1);rw[aah,NZ] at h;rw[aY];omega
  rw[NZ];omega
theorem LB(J:fB):FB (qC J).2=FB J:=by
 unfold qC
 simp only
 split
 ·rfl
 split
 ·rfl
 split<;>rfl
theorem ZJ(J:fB):FB (oO J).2=FB J:=by
 unfold oO
 simp only
 split
 ·rfl
 exact LB _
theorem aen(r:bY)(t:ah)(ts:List ah):FB (ow r t ts).2<=64:=by
 unfold ow
 cases hp:jZ t with
 |error bk=>exact aS _
 |ok Sc=>
  obtain⟨S,cs⟩:=Sc
  simp only
  cases ho:wR S ts with
  |error b=>cases b<;>exact aS _
  |ok ps=>
   simp only
   have hok:=La ho;have h64:=(BU hp).2;have hl:(iq S.bG cs ps).length<=64:=aC (wZ _ _) (aC (ZL hok.nd hok.lt) h64);have h0:FB (oO (oH r)).2=0:=ZJ _;have h1:=Ox (iq S.bG cs ps) (oO (oH r)).2;unfold qM
   split
   ·split
    ·split
     ·rw[LB];omega
     omega
    omega
   omega
end Go.Proofs.YthhbpebihgjpjaaGreatDoor
