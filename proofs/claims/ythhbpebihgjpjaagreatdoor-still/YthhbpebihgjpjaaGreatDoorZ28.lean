import Derived.Test.YthhbpebihgjpjaaGreatDoorZ27
import Derived.BigQuiet
import Derived.WalkLawsBesides
namespace Go.Proofs.YthhbpebihgjpjaaGreatDoor
set_option maxRecDepth 100000
set_option maxHeartbeats 20000000
set_option linter.all false
section
open Go.RowKit Go.Extern.Stop Go.Stop Go.Extern
structure uN(a:Nat->Addr)(t:Nat->ah)(w:aj):Prop where
 cell:∀k,k<9->w.cell? ⟨k+0,0,none⟩=some (.iface 472 (.pointer (some (a k))))
 row:∀k,k<9->∃c t,w.heap[(a k).block]?=some (.cells c t (0,0))
 text:∀k,k<9->w.cell? (a k)=some (.string (t k))
 full:∀k,k<9->1<=(t k).size
 short:∀k,k<9->(t k).size<=100
 ne:∀j k,j<9->k<9->a j=a k->j=k
 handle:w.cell? ⟨9,0,none⟩=some (.iface 276 (.agg #[.pointer (some ⟨14,70,none⟩)]))
variable {w:aj}
theorem iI{p:Addr}{v:Value}(h:w.cell? p=some v):p.block<w.heap.size:=by
 rcases bR p.block w.heap.size with g|g
 ·exact g
 simp[World.cell?,eU g] at h
theorem uN.below{a:Nat->Addr}{t:Nat->ah}{w':aj}(h:uN a t w)(hb:Below w.heap.size w w'):uN a t w' where
 cell k hk:=by rw[hb.cell (iI (h.cell k hk))];exact h.cell k hk
 row k hk:=by
  rw[hb.block _ (iI (h.text k hk))];exact h.row k hk
 text k hk:=by rw[hb.cell (iI (h.text k hk))];exact h.text k hk
 full:=h.full
 short:=h.short
 ne:=h.ne
 handle:=by rw[hb.cell (iI h.handle)];exact h.handle
theorem ab7(w:aj)(p:Addr)(h:p.block<w.heap.size)(o1 o2 o3 o4 o5 o6:Obj):((((((w.alloc o1).alloc o2).alloc o3).alloc o4).alloc o5).alloc o6).cell? p=w.cell? p:=by
 rw[bO _ _ p (by simp;omega),bO _ _ p (by simp;omega),bO _ _ p (by simp;omega),bO _ _ p (by simp;omega),bO _ _ p (by simp;omega),bO _ _ p h]
def nine(a:Nat->Addr):Array Value:=#[.iface 472 (.pointer (some (a 0))),.iface 472 (.pointer (some (a 1))),.iface 472 (.pointer (some (a 2))),.iface 472 (.pointer (some (a 3))),.iface 472 (.pointer (some (a 4))),.iface 472 (.pointer (some (a 5))),.iface 472 (.pointer (some (a 6))),.iface 472 (.pointer (some (a 7))),.iface 472 (.pointer (some (a 8)))]
theorem adY(a:Nat->Addr)(i:Nat)(hi:i<9):(nine a)[i]?=some (.iface 472 (.pointer (some (a i)))):=by
 match i,hi with
 |0,_=>rfl
 |1,_=>rfl
 |2,_=>rfl
 |3,_=>rfl
 |4,_=>rfl
 |5,_=>rfl
 |6,_=>rfl
 |7,_=>rfl
 |8,_=>rfl
 |n+9,h=>exact absurd h (by omega)
theorem OE(a:Nat->Addr)(w:aj)(i:Nat)(hi:i<9):(w.alloc (.cells (nine a) 70)).cell? ⟨w.heap.size,i,none⟩=some (.iface 472 (.pointer (some (a i)))):=by
 rw[World.cell?_alloc_at _ _ _ _ (by simp)];exact adY a i hi
theorem TI(a:Nat->Addr)(t:Nat->ah)(k:Nat)(hk:k<9)(w:aj)(hS:uN a t w):
  Calls Tryz.prog 43 #[.iface 472 (.pointer (some (a k)))] w fun e w'=>e=.returned (.tuple #[.int .i64 (k+1),.int .i64 (-1)])/\Below w.heap.size w w':=by
 have c0:w.cell? ⟨0,0,none⟩=_:=hS.cell 0 (by omega);have c1:w.cell? ⟨1,0,none⟩=_:=hS.cell 1 (by omega);have c2:w.cell? ⟨2,0,none⟩=_:=hS.cell 2 (by omega);have c3:w.cell? ⟨3,0,none⟩=_:=hS.cell 3 (by omega);have c4:w.cell? ⟨4,0,none⟩=_:=hS.cell 4 (by omega);have c5:w.cell? ⟨5,0,none⟩=_:=hS.cell 5 (by omega);have c6:w.cell? ⟨6,0,none⟩=_:=hS.cell 6 (by omega);have c7:w.cell? ⟨7,0,none⟩=_:=hS.cell 7 (by omega);have c8:w.cell? ⟨8,0,none⟩=_:=hS.cell 8 (by omega);have hb1:Below w.heap.size w (w.alloc (.cells (nine a) 70)):=(au _ _).alloc (ai _) _;have hS1:=hS.below hb1;have hn:=OE a w;have H1:=aP hn;clear hn
 go_enter Tryz.func43,Tryz.ntmps43
 go_wp2
 clear c0 c1 c2 c3 c4 c5 c6 c7 c8;rw[show(#[Value.iface 472 (Value.pointer (some (a 0))),Value.iface 472 (Value.pointer (some (a 1))),Value.iface 472 (Value.pointer (some (a 2))),Value.iface 472 (Value.pointer (some (a 3))),Value.iface 472 (Value.pointer (some (a 4))),Value.iface 472 (Value.pointer (some (a 5))),Value.iface 472 (Value.pointer (some (a 6))),Value.iface 472 (Value.pointer (some (a 7))),Value.iface 472 (Value.pointer (some (a 8)))]:Array Value)=nine a from rfl]
 go_loop [4,21] (fun n i=>∃j:Nat,j<=9/\i=.int .i64 j/\((j<=k/\n=.int .i64 0)\/(k<j/\n=.int .i64 (k+1)))) (fun _ i=>9-(intOf i).toNat)
 case atStart=>exact⟨0,by omega,rfl,aG ⟨by omega,rfl⟩⟩
 case round=>
  obtain⟨j,hj,rfl,hn⟩:=hrel
  by_cases hlt:j<9
  ·have hcj:=H1.out j hlt
   by_cases hjk:j=k
   ·subst hjk
    rcases hn with ⟨_,rfl⟩|⟨h,_⟩
    ·go_wp2_with (go_at_call 63;refine(adQ _ _).mono ?_;rintro e w' ⟨rfl,rfl⟩)
     go_round
     case rel=>exact⟨j+1,by omega,by go_num,aL ⟨by omega,rfl⟩⟩
     case measure=>simp[intOf];omega
    omega
   have hne:a k≠a j:=fun e=>hjk (hS.ne k j hk hlt e).symm
   obtain⟨ca,ta,ha⟩:=hS1.row k hk;obtain⟨cb,tb,hb⟩:=hS1.row j hlt;have HA:Hid (Calls Tryz.prog 63 #[.iface 472 (.pointer (some (a k))),.iface 472 (.pointer (some (a j)))] (w.alloc (.cells (nine a) 70)) fun e w'=>e=.returned (.bool false)/\w'=(w.alloc (.cells (nine a) 70))):=abD _ _ _ _ _ _ _ hne ha hb;clear ha hb hne
   rcases hn with ⟨hle,rfl⟩|⟨hgt,rfl⟩
   ·go_wp2_with (go_at_call 63;refine HA.out.mono ?_;rintro e w' ⟨rfl,rfl⟩)
    go_round
    case rel=>exact⟨j+1,by omega,by go_num,aG ⟨by omega,rfl⟩⟩
    case measure=>simp[intOf];omega
   go_wp2_with (go_at_call 63;refine HA.out.mono ?_;rintro e w' ⟨rfl,rfl⟩)
   go_round
   case rel=>exact⟨j+1,by omega,by go_num,aL ⟨by omega,rfl⟩⟩
   case measure=>simp[intOf];omega
  have hj9:j=9:=by omega
  subst hj9
  rcases hn with ⟨h,_⟩|⟨hgt,rfl⟩
  ·omega
  have hz:(((k:Int)+1)==0)=false:=lg.2 (by omega);have hgl:=(hS1.below ((au _ _).alloc (ai _) (.cells #[.pointer none] 129))).handle
  go_wp2_with (go_at_call 64;refine(adp _ _ _ hgl).mono ?_;rintro e w' ⟨rfl,rfl⟩)
  go_ret2;refine⟨rfl,?_⟩;refine rY (rY (rY (rY hb1 ?_ _) ?_ _) ?_ _) ?_ _<;>(simp<;>omega)
theorem Fj(a:Nat->Addr)(t:Nat->ah)(k:Nat)(hk:k<9)(pb po:Nat){z:Int}(w:aj)(hS:uN a t w)(hp0:w.cell? ⟨pb,po,none⟩=some (.int .i64 z))(hp1:w.cell? ⟨pb,po+1,none⟩=some (.iface 472 (.pointer (some (a k))))):
  Calls Tryz.prog 43 #[.iface 129 (.pointer (some ⟨pb,po,none⟩))] w fun e w'=>e=.returned (.tuple #[.int .i64 (k+1),.int .i64 z])/\Below w.heap.size w w':=by
 have c0:w.cell? ⟨0,0,none⟩=_:=hS.cell 0 (by omega);have c1:w.cell? ⟨1,0,none⟩=_:=hS.cell 1 (by omega);have c2:w.cell? ⟨2,0,none⟩=_:=hS.cell 2 (by omega);have c3:w.cell? ⟨3,0,none⟩=_:=hS.cell 3 (by omega);have c4:w.cell? ⟨4,0,none⟩=_:=hS.cell 4 (by omega);have c5:w.cell? ⟨5,0,none⟩=_:=hS.cell 5 (by omega);have c6:w.cell? ⟨6,0,none⟩=_:=hS.cell 6 (by omega);have c7:w.cell? ⟨7,0,none⟩=_:=hS.cell 7 (by omega);have c8:w.cell? ⟨8,0,none⟩=_:=hS.cell 8 (by omega);have hb1:Below w.heap.size w (w.alloc (.cells (nine a) 70)):=(au _ _).alloc (ai _) _;have hS1:=hS.below hb1
 have HP0:Hid ((w.alloc (.cells (nine a) 70)).cell? ⟨pb,po,none⟩=some (.int .i64 z)):=by show _=_;rw[hb1.cell (iI hp0)];exact hp0
 have tC:Hid ((w.alloc (.cells (nine a) 70)).cell? ⟨pb,po+1,none⟩=some (.iface 472 (.pointer (some (a k))))):=by show _=_;rw[hb1.cell (iI hp1)];exact hp1
 have hpl:pb<w.heap.size:=iI hp0
 have HQ:Hid (∀o1 o2 o3 o4 o5 o6:Obj,((((((w.alloc o1).alloc o2).alloc o3).alloc o4).alloc o5).alloc o6).cell? ⟨pb,po,none⟩=some (.int .i64 z)):=by
  intro o1 o2 o3 o4 o5 o6;rw[ab7 w ⟨pb,po,none⟩ hpl];exact hp0
 clear hp0 hp1;have hn:=OE a w;have H1:=aP hn;clear hn
 go_enter Tryz.func43,Tryz.ntmps43
 go_wp2
 clear c0 c1 c2 c3 c4 c5 c6 c7 c8;rw[show(#[Value.iface 472 (Value.pointer (some (a 0))),Value.iface 472 (Value.pointer (some (a 1))),Value.iface 472 (Value.pointer (some (a 2))),Value.iface 472 (Value.pointer (some (a 3))),Value.iface 472 (Value.pointer (some (a 4))),Value.iface 472 (Value.pointer (some (a 5))),Value.iface 472 (Value.pointer (some (a 6))),Value.iface 472 (Value.pointer (some (a 7))),Value.iface 472 (Value.pointer (some (a 8)))]:Array Value)=nine a from rfl]
 go_loop [4,21] (fun n i=>∃j:Nat,j<=9/\i=.int .i64 j/\((j<=k/\n=.int .i64 0)\/(k<j/\n=.int .i64 (k+1)))) (fun _ i=>9-(intOf i).toNat)
 case atStart=>exact⟨0,by omega,rfl,aG ⟨by omega,rfl⟩⟩
 case round=>
  obtain⟨j,hj,rfl,hn⟩:=hrel
  by_cases hlt:j<9
  ·have hcj:=H1.out j hlt
   by_cases hjk:j=k
   ·subst hjk
    rcases hn with ⟨_,rfl⟩|⟨h,_⟩
    ·go_wp2_with (go_at_call 63;refine(Qo _ _ _ _ tC.out).mono ?_;rintro e w' ⟨rfl,rfl⟩)
     go_round
     case rel=>exact⟨j+1,by omega,by go_num,aL ⟨by omega,rfl⟩⟩
     case measure=>simp[intOf];omega
    omega
   have hne:a k≠a j:=fun e=>hjk (hS.ne k j hk hlt e).symm
   obtain⟨ca,ta,ha⟩:=hS1.row k hk;obtain⟨cb,tb,hb⟩:=hS1.row j hlt;have HA:Hid (Calls Tryz.prog 63 #[.iface 129 (.pointer (some ⟨pb,po,none⟩)),.iface 472 (.pointer (some (a j)))] (w.alloc (.cells (nine a) 70)) fun e w'=>e=.returned (.bool false)/\w'=(w.alloc (.cells (nine a) 70))):=Ng _ _ _ _ _ _ _ _ _ tC.out hne ha hb;clear ha hb hne
   rcases hn with ⟨hle,rfl⟩|⟨hgt,rfl⟩
   ·go_wp2_with (go_at_call 63;refine HA.out.mono ?_;rintro e w' ⟨rfl,rfl⟩)
    go_round
    case rel=>exact⟨j+1,by omega,by go_num,aG ⟨by omega,rfl⟩⟩
    case measure=>simp[intOf];omega
   go_wp2_with (go_at_call 63;refine HA.out.mono ?_;rintro e w' ⟨rfl,rfl⟩)
   go_round
   case rel=>exact⟨j+1,by omega,by go_num,aL ⟨by omega,rfl⟩⟩
   case measure=>simp[intOf];omega
  have hj9:j=9:=by omega
  subst hj9
  rcases hn with ⟨h,_⟩|⟨hgt,rfl⟩
  ·omega
  have hz:(((k:Int)+1)==0)=false:=lg.2 (by omega);have hgl:=(hS1.below ((au _ _).alloc (ai _) (.cells #[.pointer none] 129))).handle
  have htA:((w.alloc (.cells (nine a) 70)).alloc (.cells #[.pointer none] 129)).cell? ⟨w.heap.size+1,0,none⟩=some (.pointer none):=by simp
  have hfA:((w.alloc (.cells (nine a) 70)).alloc (.cells #[.pointer none] 129)).frozen? ⟨w.heap.size+1,0,none⟩=false:=by simp
  go_wp2_with (go_at_call 64;refine(afD _ _ (.pointer none) _ hgl htA hfA).mono ?_;rintro e w' ⟨rfl,rfl⟩)
  have hq:=HQ.out
  go_quiet (fail)
  go_wp2
  go_ret2;refine⟨rfl,?_⟩;refine below_drewN ?_ _;refine rY (rY (rY (rY (rY hb1 ?_ _) ?_ _) ?_ _) ?_ _) ?_ _<;>(simp<;>omega)
