import Derived.Test.YthhbpebihgjpjaaGreatDoorZ16
import Derived.Conc.RwLib
import Derived.Conc.MuData
import Derived.Conc.MuLone
namespace Go.Proofs.YthhbpebihgjpjaaGreatDoor
set_option maxRecDepth 1000000
set_option maxHeartbeats 20000000
set_option linter.all false
section
open Go.RowKit Go.MuLone
abbrev agk:Go.Conc.Locks.MuLink:={lock:=58,unlock:=59,ilock:=94,iunlock:=95,lockSlow:=158,unlockSlow:=161,disable:=154,enable:=156,acquire:=157,relMerge:=159,cas32:=155,add32:=160,tMutex:=92,tIMutex:=90,tPMutex:=169,tPIMutex:=249,tPI32:=251,tUP:=180,tNoCopy:=87,tU32:=88}
theorem kg:Go.Conc.Locks.MuLib Tryz.prog agk:=
 ⟨Tryz.func58,Tryz.func59,Tryz.func94,Tryz.func95,Tryz.func154,Tryz.func156,Tryz.func157,Tryz.func159,Tryz.func155,Tryz.func160,Tryz.underlying90,Tryz.runUnderlying90,Tryz.sizeOf90,Tryz.isAgg90,Tryz.zeroValue90,Tryz.underlying92,Tryz.runUnderlying92,Tryz.sizeOf92,Tryz.isAgg92,Tryz.zeroValue92,Tryz.underlying169,Tryz.runUnderlying169,Tryz.sizeOf169,Tryz.isAgg169,Tryz.zeroValue169,Tryz.underlying249,Tryz.runUnderlying249,Tryz.sizeOf249,Tryz.isAgg249,Tryz.zeroValue249,Tryz.underlying251,Tryz.runUnderlying251,Tryz.sizeOf251,Tryz.isAgg251,Tryz.zeroValue251,Tryz.underlying180,Tryz.runUnderlying180,Tryz.sizeOf180,Tryz.isAgg180,Tryz.zeroValue180,Tryz.underlying87,Tryz.runUnderlying87,Tryz.sizeOf87,Tryz.isAgg87,Tryz.zeroValue87,Tryz.underlying21,Tryz.runUnderlying21,Tryz.sizeOf21,Tryz.isAgg21,Tryz.zeroValue21,(by kernel_rfl)⟩
variable {w:aj}
theorem bC.setLock{fb:Nat}{d:dQ}{lk:Int}{nb sb:Nat}{sv:Value}(h:bC w fb d lk nb sb sv)(x:Int):bC (w.setCell ⟨fb,0,none⟩ (.int .i32 x)) fb d x nb sb sv:=by
 unfold bC;rw[xY h];rfl
theorem QO(n:Int)(d:dQ)(fb:Nat)(nb sb:Nat)(sv:Value)(w:aj)(h:bC w fb d 0 nb sb sv):
  Calls Tryz.prog 41 #[.pointer (some ⟨fb,0,none⟩),.int .i64 n] w fun e w'=>e=.returned (.tuple #[])/\bC w' fb {d with room:=min (max n 0) 65536} 0 nb sb sv/\aQ (fun k=>k=fb) w w':=by
 have HR1:=aP (h.setLock 1);have HT1:Hid (aQ (fun k=>k=fb) w (w.setCell ⟨fb,0,none⟩ (.int .i32 1))):=(aQ.refl _ w).setCell ⟨fb,0,none⟩ _ (aG rfl)
 have h0:w.cell? ⟨fb,0,none⟩=some (.int .i32 0):=by rw[bZ h];rfl
 have f0:w.frozen? ⟨fb,0,none⟩=false:=iG h;clear h
 go_enter_defers Tryz.func41,Tryz.ntmps41
 go_wp2_with (go_at_call 58;refine(lock_free kg ⟨fb,0,none⟩ _ h0 f0).mono ?_;rintro e w1 ⟨rfl,rfl⟩;refine dI ?_)
 clear h0 f0;generalize w.setCell ⟨fb,0,none⟩ (.int .i32 1)=w1 at*
 have c2:w1.cell? ⟨fb,2,none⟩=some (.int .i64 d.room):=by rw[bZ HR1.out];rfl
 have f2:w1.frozen? ⟨fb,2,none⟩=false:=iG HR1.out;unfold Hid
 go_wp2_with (go_at_call 48;refine(Mq n _).mono ?_;rintro e w2 ⟨rfl,rfl⟩)
 have HR2:Hid (bC (w2.setCell ⟨fb,2,none⟩ (.int .i64 (min (max n 0) 65536))) fb {d with room:=min (max n 0) 65536} 1 nb sb sv):=HR1.out.setRoom _;have HT2:Hid (aQ (fun k=>k=fb) w (w2.setCell ⟨fb,2,none⟩ (.int .i64 (min (max n 0) 65536)))):=HT1.out.setCell ⟨fb,2,none⟩ _ (aG rfl);clear HR1 HT1 c2 f2;generalize w2.setCell ⟨fb,2,none⟩ (.int .i64 (min (max n 0) 65536))=w3 at*;refine eY (f:=59) (args:=#[.pointer (some ⟨fb,0,none⟩)]) (by simp) (by simp[go_sem]) ?_;refine(unlock_deferred kg ⟨fb,0,none⟩ .returning _ ?_ ?_).mono ?_;(rw[bZ HR2.out];rfl);(exact iG HR2.out);rintro e u' w'' ⟨rfl,rfl,rfl⟩;exact⟨_,eG rfl _ _ _,rfl,HR2.out.setLock 0,HT2.out.setCell ⟨fb,0,none⟩ _ (aG rfl)⟩
theorem QM(n:Int)(d:dQ)(fb:Nat)(nb sb:Nat)(sv:Value)(w:aj)(h:bC w fb d 0 nb sb sv):
  Calls Tryz.prog 52 #[.pointer (some ⟨fb,0,none⟩),.int .i64 n] w fun e w'=>e=.returned (.tuple #[])/\bC w' fb {d with fuse:=max n 0} 0 nb sb sv/\aQ (fun k=>k=fb) w w':=by
 have HR1:=aP (h.setLock 1);have HT1:Hid (aQ (fun k=>k=fb) w (w.setCell ⟨fb,0,none⟩ (.int .i32 1))):=(aQ.refl _ w).setCell ⟨fb,0,none⟩ _ (aG rfl)
 have h0:w.cell? ⟨fb,0,none⟩=some (.int .i32 0):=by rw[bZ h];rfl
 have f0:w.frozen? ⟨fb,0,none⟩=false:=iG h;clear h
 go_enter_defers Tryz.func52,Tryz.ntmps52
 go_wp2_with (go_at_call 58;refine(lock_free kg ⟨fb,0,none⟩ _ h0 f0).mono ?_;rintro e w1 ⟨rfl,rfl⟩;refine dI ?_)
 clear h0 f0;generalize w.setCell ⟨fb,0,none⟩ (.int .i32 1)=w2 at*
 have c6:w2.cell? ⟨fb,6,none⟩=some (.int .i64 d.fuse):=by rw[bZ HR1.out];rfl
 have f6:w2.frozen? ⟨fb,6,none⟩=false:=iG HR1.out
 have HR2:Hid (∀x,bC (w2.setCell ⟨fb,6,none⟩ (.int .i64 x)) fb {d with fuse:=x} 1 nb sb sv):=fun x=>HR1.out.setFuse x
 have HT2:Hid (∀x,aQ (fun k=>k=fb) w (w2.setCell ⟨fb,6,none⟩ (.int .i64 x))):=fun x=>HT1.out.setCell ⟨fb,6,none⟩ _ (aG rfl)
 unfold Hid
 by_cases hn:n<0
 ·have HE:Hid (max n 0=0):=by show _=_;omega
  go_wp2
  have HR2:=HR2.out 0;have HT2:=HT2.out 0;clear HR1 HT1 c6 f6;generalize w2.setCell ⟨fb,6,none⟩ (.int .i64 0)=w3 at*;have HR2:=aP HR2;refine eY (f:=59) (args:=#[.pointer (some ⟨fb,0,none⟩)]) (by simp) (by simp[go_sem]) ?_;refine(unlock_deferred kg ⟨fb,0,none⟩ .returning _ ?_ ?_).mono ?_;(rw[bZ HR2.out];rfl);(exact iG HR2.out);rintro e u' w'' ⟨rfl,rfl,rfl⟩;exact⟨_,eG rfl _ _ _,rfl,by rw[HE.out];exact HR2.out.setLock 0,aQ.setCell HT2 ⟨fb,0,none⟩ _ (aG rfl)⟩
 have HE:Hid (max n 0=n):=by show _=_;omega
 have h2:0<=n:=by omega
 go_wp2
 have HR2:=HR2.out n;have HT2:=HT2.out n;clear HR1 HT1 c6 f6;generalize w2.setCell ⟨fb,6,none⟩ (.int .i64 n)=w3 at*;have HR2:=aP HR2;refine eY (f:=59) (args:=#[.pointer (some ⟨fb,0,none⟩)]) (by simp) (by simp[go_sem]) ?_;refine(unlock_deferred kg ⟨fb,0,none⟩ .returning _ ?_ ?_).mono ?_;(rw[bZ HR2.out];rfl);(exact iG HR2.out);rintro e u' w'' ⟨rfl,rfl,rfl⟩;exact⟨_,eG rfl _ _ _,rfl,by rw[HE.out];exact HR2.out.setLock 0,aQ.setCell HT2 ⟨fb,0,none⟩ _ (aG rfl)⟩
end
section
open Go.RowKit Go.MuLone Go.Maps
def rJ:Value->Option (DataW Unit×List MemPlace)
 |.agg cs=>match cs.toList with
   |[.string s]=>some (.lit (.string s.data.toList),[])
   |_=>none
 |_=>none
theorem BO(s:ah):rJ (.agg #[.string s])=some (.lit (.string s.data.toList),[]):=rfl
theorem Aq{v:Value}{z:DataW Unit×List MemPlace}(h:rJ v=some z):∃s:ah,v=.agg #[.string s]/\z=(.lit (.string s.data.toList),[]):=by
 unfold rJ at h
 split at h
 ·rename_i cs
  split at h
  ·rename_i s hs
   refine⟨s,?_,(ak h).symm⟩
   congr 1
   apply fD.1;rw[hs]
  cases h
 cases h
theorem Tv:Keyed Tryz.prog 9:=string_keyed Tryz.underlying9
theorem aeY(w:aj):(zeroValue 117).run Tryz.prog w=.ok (.agg #[.string ⟨#[]⟩]) w:=Tryz.zeroValue117 w
def jF(name:ah):Lit:=.string name.data.toList
theorem xU{a b:ah}(h:jF a=jF b):a=b:=by
 unfold jF at h;injection h with h;exact ByteArray.ext (fD.1 h)
theorem Av(name:ah)(h:name.size<=maxLen):keyOf Tryz.prog 9 (.string name)=some (jF name):=WideMaps.keyOf_string_mk Tryz.underlying9 h
structure pJ(D:DataW Unit)(l:List bL):Prop where
 has:∀name,Maps.has D (jF name)=(fM l name).isSome
 at':∀name,D.atKey (jF name) (.lit (.string []))=.lit (.string ((fM l name).getD ⟨#[]⟩).data.toList)
theorem Om(name:ah):WideAt.IsKeyLit (jF name):=trivial
variable {D:DataW Unit}{l:List bL}
theorem pJ.put(h:pJ D l)(hD:IsMap D)(a data:ah):pJ (D.put (jF a) (.lit (.string data.data.toList))) (xq l a data):=by
 refine⟨fun name=>?_,fun name=>?_⟩
 ·rw[zL]
  by_cases n:name=a
  ·subst n;rw[aD rfl,has_put_same hD (Om _)];rfl
  rw[ax n,has_put_other (fun e=>n (xU e))];exact h.has name
 rw[zL]
 by_cases n:name=a
 ·subst n;rw[aD rfl,atKey_put_same hD (Om _)];rfl
 rw[ax n,atKey_put_other (fun e=>n (xU e))];exact h.at' name
theorem pJ.del(h:pJ D l)(a:ah):pJ (D.del (jF a)) (iJ l a):=by
 refine⟨fun name=>?_,fun name=>?_⟩
 ·rw[zl]
  by_cases n:name=a
  ·subst n;rw[aD rfl,has_del_same];rfl
  rw[ax n,has_del_other (fun e=>n (xU e))];exact h.has name
 rw[zl]
 by_cases n:name=a
 ·subst n;rw[aD rfl,atKey_del_same];rfl
 rw[ax n,atKey_del_other (fun e=>n (xU e))];exact h.at' name
theorem pJ.empty:pJ (.map []) []:=⟨fun _=>rfl,fun _=>rfl⟩
def dw(w:aj)(b:Nat)(n:Nat)(l:List bL):Prop:=∃D,w.ownsMap Tryz.prog 9 rJ b n D/\pJ D l
variable {w:aj}{b n:Nat}
theorem dw.lt(h:dw w b n l):b<w.heap.size:=let ⟨_,ho,_⟩:=h;ho.lt
theorem dw.keep{w':aj}(h:dw w b n l)(e:w'.heap[b]?=w.heap[b]?):dw w' b n l:=by
 obtain⟨D,⟨es,clock,hb,r⟩,hh⟩:=h;exact⟨D,⟨es,clock,e.trans hb,r⟩,hh⟩
theorem dw.look(h:dw w b n l)(name:ah)(hn:name.size<=maxLen):(Instr.lookup 85 (.map (some b)) (.string name) false).run Tryz.prog w=.ok (.agg #[.string (fO l name)]) w:=by
 obtain⟨D,ho,hh⟩:=h;obtain⟨v,ps,hrun,hv⟩:=ho.lookup Tv Tryz.underlying85 (aeY w) (BO ⟨#[]⟩) (Av name hn);obtain⟨s,rfl,hz⟩:=Aq hv;have e:=hh.at' name;have e2:DataW.atKey D (jF name) (.lit (.string []))=.lit (.string s.data.toList):=gW Prod.fst hz;rw[e2] at e
 have e3:s=fO l name:=by
  injection e with e;injection e with e;rw[oJ];exact ByteArray.ext (fD.1 e)
 rw[hrun,e3]
theorem dw.look_ok(h:dw w b n l)(name:ah)(hn:name.size<=maxLen):(Instr.lookup 85 (.map (some b)) (.string name) true).run Tryz.prog w=.ok (.tuple #[.agg #[.string (fO l name)],.bool (decide (iQ l name≠-1))]) w:=by
 obtain⟨D,ho,hh⟩:=h;obtain⟨v,ps,hrun,hv⟩:=ho.look_ok Tv Tryz.underlying85 (aeY w) (BO ⟨#[]⟩) (Av name hn);obtain⟨s,rfl,hz⟩:=Aq hv;have e:=hh.at' name;have e2:DataW.atKey D (jF name) (.lit (.string []))=.lit (.string s.data.toList):=gW Prod.fst hz;rw[e2] at e
 have e3:s=fO l name:=by
  injection e with e;injection e with e;rw[oJ];exact ByteArray.ext (fD.1 e)
 rw[hrun,e3,hh.has name,Li]
theorem dw.store(h:dw w b n l)(hn:n<maxLen)(name data:ah)(hk:name.size<=maxLen):
  ∃w',(Instr.mapUpdate 85 (.map (some b)) (.string name) (.agg #[.string data])).run Tryz.prog w=.ok () w'/\dw w' b (n+1) (xq l name data)/\w.grownBy w' (some b):=by
 obtain⟨D,ho,hh⟩:=h;obtain⟨w',hrun,ho',hg⟩:=ho.update Tv Tryz.underlying85 hn (Av name hk) (BO data);exact⟨w',hrun,⟨_,ho',hh.put ho.isMap name data⟩,hg⟩
theorem dw.drop(h:dw w b n l)(name:ah)(hk:name.size<=maxLen)(ty:TypeId):
  ∃w',(Builtin.delete_ #[85,9] ty #[.map (some b),.string name]).run Tryz.prog w=.ok (.tuple #[]) w'/\dw w' b n (iJ l name)/\w.grownBy w' (some b):=by
 obtain⟨D,ho,hh⟩:=h;obtain⟨w',hrun,ho',hg⟩:=ho.drop Tv Tryz.underlying85 (Av name hk) ty;exact⟨w',hrun,⟨_,ho',hh.del name⟩,hg.grown⟩
theorem dw.made(w:aj):dw (w.alloc (.map #[] 0)) w.heap.size 0 []:=⟨_,World.ownsMap_made w _ _ _,pJ.empty⟩
theorem XT(name:ah)(hn:name.size<=maxLen)(l:List bL)(d:dQ)(fb:Nat)(lk:Int)(nb sb n:Nat)(sv:Value)(w:aj)(h:bC w fb d lk nb sb sv)(hm:dw w nb n l):
  Calls Tryz.prog 125 #[.pointer (some ⟨fb,0,none⟩),.string name] w fun e w'=>e=.returned (.bool (decide (iQ l name≠-1)))/\Below w.heap.size w w':=by
 have c3:w.cell? ⟨fb,3,none⟩=some (.map (some nb)):=by rw[bZ h];rfl
 have hl:=hm.look_ok name hn;clear h hm;generalize decide (iQ l name≠-1)=ok at*;generalize fO l name=dt at*
 go_enter Tryz.func125,Tryz.ntmps125
 go_wp2
 go_ret;exact⟨rfl,(au _ _).alloc (ai _) _⟩
