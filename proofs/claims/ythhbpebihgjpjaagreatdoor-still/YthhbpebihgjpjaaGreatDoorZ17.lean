import Derived.Test.YthhbpebihgjpjaaGreatDoorZ16
import Derived.Conc.RwLib
import Derived.Conc.MuData
import Derived.Conc.MuLone
namespace Go.Proofs.YthhbpebihgjpjaaGreatDoor
set_option maxRecDepth 1000000
set_option maxHeartbeats 20000000
set_option linter.all false
section
open Go.RowKit Go.MuLone
abbrev agp:Go.Conc.Locks.MuLink:={lock:=58,unlock:=59,ilock:=94,iunlock:=95,lockSlow:=158,unlockSlow:=161,disable:=154,enable:=156,acquire:=157,relMerge:=159,cas32:=155,add32:=160,tMutex:=92,tIMutex:=90,tPMutex:=169,tPIMutex:=249,tPI32:=251,tUP:=180,tNoCopy:=87,tU32:=88}
theorem ku:Go.Conc.Locks.MuLib Tryz.prog agp:=
 ⟨Tryz.func58,Tryz.func59,Tryz.func94,Tryz.func95,Tryz.func154,Tryz.func156,Tryz.func157,Tryz.func159,Tryz.func155,Tryz.func160,Tryz.underlying90,Tryz.runUnderlying90,Tryz.sizeOf90,Tryz.isAgg90,Tryz.zeroValue90,Tryz.underlying92,Tryz.runUnderlying92,Tryz.sizeOf92,Tryz.isAgg92,Tryz.zeroValue92,Tryz.underlying169,Tryz.runUnderlying169,Tryz.sizeOf169,Tryz.isAgg169,Tryz.zeroValue169,Tryz.underlying249,Tryz.runUnderlying249,Tryz.sizeOf249,Tryz.isAgg249,Tryz.zeroValue249,Tryz.underlying251,Tryz.runUnderlying251,Tryz.sizeOf251,Tryz.isAgg251,Tryz.zeroValue251,Tryz.underlying180,Tryz.runUnderlying180,Tryz.sizeOf180,Tryz.isAgg180,Tryz.zeroValue180,Tryz.underlying87,Tryz.runUnderlying87,Tryz.sizeOf87,Tryz.isAgg87,Tryz.zeroValue87,Tryz.underlying21,Tryz.runUnderlying21,Tryz.sizeOf21,Tryz.isAgg21,Tryz.zeroValue21,dD⟩
variable {w:ak}
theorem bH.setLock{fb:Nat}{d:dX}{lk:Int}{nb sb:Nat}{sv:Value}(h:bH w fb d lk nb sb sv)(x:Int):bH (w.setCell ⟨fb,0,none⟩ (.int .i32 x)) fb d x nb sb sv:=by
 unfold bH;rw[aR _ _ _ _ _ _ h];rfl
theorem QT(n:Int)(d:dX)(fb:Nat)(nb sb:Nat)(sv:Value)(w:ak)(h:bH w fb d 0 nb sb sv):
  Calls Tryz.prog 41 #[.pointer (some ⟨fb,0,none⟩),.int .i64 n] w fun e w'=>e=.returned (.tuple #[])/\bH w' fb {d with room:=min (max n 0) 65536} 0 nb sb sv/\aW (fun k=>k=fb) w w':=by
 have HR1:=aV (h.setLock 1);have HT1:Hid (aW (fun k=>k=fb) w (w.setCell ⟨fb,0,none⟩ (.int .i32 1))):=(aW.refl _ w).setCell ⟨fb,0,none⟩ _ (aK rfl)
 have h0:w.cell? ⟨fb,0,none⟩=some (.int .i32 0):=by rw[aj _ _ _ _ _ _ h];rfl
 have f0:w.frozen? ⟨fb,0,none⟩=false:=aD _ _ _ _ _ h;clear h
 go_enter_defers Tryz.func41,Tryz.ntmps41
 go_wp2_with (go_at_call 58;refine(lock_free ku ⟨fb,0,none⟩ _ h0 f0).mono ?_;rintro e w1 ⟨rfl,rfl⟩;refine dO ?_)
 clear h0 f0;generalize w.setCell ⟨fb,0,none⟩ (.int .i32 1)=w1 at*
 have c2:w1.cell? ⟨fb,2,none⟩=some (.int .i64 d.room):=by rw[aj _ _ _ _ _ _ HR1.out];rfl
 have f2:w1.frozen? ⟨fb,2,none⟩=false:=aD _ _ _ _ _ HR1.out;unfold Hid
 go_wp2_with (go_at_call 48;refine(Mq n _).mono ?_;rintro e w2 ⟨rfl,rfl⟩)
 have HR2:Hid (bH (w2.setCell ⟨fb,2,none⟩ (.int .i64 (min (max n 0) 65536))) fb {d with room:=min (max n 0) 65536} 1 nb sb sv):=HR1.out.setRoom _;have HT2:Hid (aW (fun k=>k=fb) w (w2.setCell ⟨fb,2,none⟩ (.int .i64 (min (max n 0) 65536)))):=HT1.out.setCell ⟨fb,2,none⟩ _ (aK rfl);clear HR1 HT1 c2 f2;generalize w2.setCell ⟨fb,2,none⟩ (.int .i64 (min (max n 0) 65536))=w3 at*;refine fA (f:=59) (args:=#[.pointer (some ⟨fb,0,none⟩)]) eB FE ?_;refine(unlock_deferred ku ⟨fb,0,none⟩ .returning _ ?_ ?_).mono ?_;(rw[aj _ _ _ _ _ _ HR2.out];rfl);(exact aD _ _ _ _ _ HR2.out);rintro e u' w'' ⟨rfl,rfl,rfl⟩;exact⟨_,eY rfl _ _ _,rfl,HR2.out.setLock 0,HT2.out.setCell ⟨fb,0,none⟩ _ (aK rfl)⟩
theorem QO(n:Int)(d:dX)(fb:Nat)(nb sb:Nat)(sv:Value)(w:ak)(h:bH w fb d 0 nb sb sv):
  Calls Tryz.prog 52 #[.pointer (some ⟨fb,0,none⟩),.int .i64 n] w fun e w'=>e=.returned (.tuple #[])/\bH w' fb {d with fuse:=max n 0} 0 nb sb sv/\aW (fun k=>k=fb) w w':=by
 have HR1:=aV (h.setLock 1);have HT1:Hid (aW (fun k=>k=fb) w (w.setCell ⟨fb,0,none⟩ (.int .i32 1))):=(aW.refl _ w).setCell ⟨fb,0,none⟩ _ (aK rfl)
 have h0:w.cell? ⟨fb,0,none⟩=some (.int .i32 0):=by rw[aj _ _ _ _ _ _ h];rfl
 have f0:w.frozen? ⟨fb,0,none⟩=false:=aD _ _ _ _ _ h;clear h
 go_enter_defers Tryz.func52,Tryz.ntmps52
 go_wp2_with (go_at_call 58;refine(lock_free ku ⟨fb,0,none⟩ _ h0 f0).mono ?_;rintro e w1 ⟨rfl,rfl⟩;refine dO ?_)
 clear h0 f0;generalize w.setCell ⟨fb,0,none⟩ (.int .i32 1)=w2 at*
 have c6:w2.cell? ⟨fb,6,none⟩=some (.int .i64 d.fuse):=by rw[aj _ _ _ _ _ _ HR1.out];rfl
 have f6:w2.frozen? ⟨fb,6,none⟩=false:=aD _ _ _ _ _ HR1.out
 have HR2:Hid (∀x,bH (w2.setCell ⟨fb,6,none⟩ (.int .i64 x)) fb {d with fuse:=x} 1 nb sb sv):=fun x=>HR1.out.setFuse x
 have HT2:Hid (∀x,aW (fun k=>k=fb) w (w2.setCell ⟨fb,6,none⟩ (.int .i64 x))):=fun x=>HT1.out.setCell ⟨fb,6,none⟩ _ (aK rfl)
 unfold Hid
 by_cases hn:n<0
 ·have HE:Hid (max n 0=0):=by show _=_;omega
  go_wp2
  have HR2:=HR2.out 0;have HT2:=HT2.out 0;clear HR1 HT1 c6 f6;generalize w2.setCell ⟨fb,6,none⟩ (.int .i64 0)=w3 at*;have HR2:=aV HR2;refine fA (f:=59) (args:=#[.pointer (some ⟨fb,0,none⟩)]) eB FE ?_;refine(unlock_deferred ku ⟨fb,0,none⟩ .returning _ ?_ ?_).mono ?_;(rw[aj _ _ _ _ _ _ HR2.out];rfl);(exact aD _ _ _ _ _ HR2.out);rintro e u' w'' ⟨rfl,rfl,rfl⟩;exact⟨_,eY rfl _ _ _,rfl,by rw[HE.out];exact HR2.out.setLock 0,aW.setCell HT2 ⟨fb,0,none⟩ _ (aK rfl)⟩
 have HE:Hid (max n 0=n):=by show _=_;omega
 have h2:0<=n:=aJ
 go_wp2
 have HR2:=HR2.out n;have HT2:=HT2.out n;clear HR1 HT1 c6 f6;generalize w2.setCell ⟨fb,6,none⟩ (.int .i64 n)=w3 at*;have HR2:=aV HR2;refine fA (f:=59) (args:=#[.pointer (some ⟨fb,0,none⟩)]) eB FE ?_;refine(unlock_deferred ku ⟨fb,0,none⟩ .returning _ ?_ ?_).mono ?_;(rw[aj _ _ _ _ _ _ HR2.out];rfl);(exact aD _ _ _ _ _ HR2.out);rintro e u' w'' ⟨rfl,rfl,rfl⟩;exact⟨_,eY rfl _ _ _,rfl,by rw[HE.out];exact HR2.out.setLock 0,aW.setCell HT2 ⟨fb,0,none⟩ _ (aK rfl)⟩
end
section
open Go.RowKit Go.MuLone Go.Maps
def rP:Value->Option (DataW Unit×List MemPlace)
 |.agg cs=>match cs.toList with
   |[.string s]=>some (.lit (.string s.data.toList),[])
   |_=>none
 |_=>none
theorem BQ(s:ah):rP (.agg #[.string s])=some (.lit (.string s.data.toList),[]):=rfl
theorem Au{v:Value}{z:DataW Unit×List MemPlace}(h:rP v=some z):∃s:ah,v=.agg #[.string s]/\z=(.lit (.string s.data.toList),[]):=by
 unfold rP at h
 split at h
 ·rename_i cs
  split at h
  ·rename_i s hs
   refine⟨s,?_,(ax h).symm⟩
   congr 1
   apply fJ.1;rw[hs]
  cases h
 cases h
theorem Ty:Keyed Tryz.prog 9:=string_keyed Tryz.underlying9
theorem ae2(w:ak):(zeroValue 117).run Tryz.prog w=.ok (.agg #[.string ⟨#[]⟩]) w:=Tryz.zeroValue117 w
def jJ(name:ah):Lit:=.string name.data.toList
theorem xY{a b:ah}(h:jJ a=jJ b):a=b:=by
 unfold jJ at h;injection h with h;exact ByteArray.ext (fJ.1 h)
theorem Ay(name:ah)(h:name.size<=maxLen):keyOf Tryz.prog 9 (.string name)=some (jJ name):=WideMaps.keyOf_string_mk Tryz.underlying9 h
structure pQ(D:DataW Unit)(l:List bP):Prop where
 has:∀name,Maps.has D (jJ name)=(fV l name).isSome
 at':∀name,D.atKey (jJ name) (.lit (.string []))=.lit (.string ((fV l name).getD ⟨#[]⟩).data.toList)
theorem Oq(name:ah):WideAt.IsKeyLit (jJ name):=trivial
variable {D:DataW Unit}{l:List bP}
theorem pQ.put(h:pQ D l)(hD:IsMap D)(a data:ah):pQ (D.put (jJ a) (.lit (.string data.data.toList))) (xB l a data):=by
 refine⟨fun name=>?_,fun name=>?_⟩
 ·rw[zN]
  by_cases n:name=a
  ·subst n;rw[aH rfl,has_put_same hD (Oq _)];rfl
  rw[aA n,has_put_other (fun e=>n (xY e))];exact h.has name
 rw[zN]
 by_cases n:name=a
 ·subst n;rw[aH rfl,atKey_put_same hD (Oq _)];rfl
 rw[aA n,atKey_put_other (fun e=>n (xY e))];exact h.at' name
theorem pQ.del(h:pQ D l)(a:ah):pQ (D.del (jJ a)) (iO l a):=by
 refine⟨fun name=>?_,fun name=>?_⟩
 ·rw[zo]
  by_cases n:name=a
  ·subst n;rw[aH rfl,has_del_same];rfl
  rw[aA n,has_del_other (fun e=>n (xY e))];exact h.has name
 rw[zo]
 by_cases n:name=a
 ·subst n;rw[aH rfl,atKey_del_same];rfl
 rw[aA n,atKey_del_other (fun e=>n (xY e))];exact h.at' name
theorem pQ.empty:pQ (.map []) []:=⟨fun _=>rfl,fun _=>rfl⟩
def dF(w:ak)(b:Nat)(n:Nat)(l:List bP):Prop:=∃D,w.ownsMap Tryz.prog 9 rP b n D/\pQ D l
variable {w:ak}{b n:Nat}
theorem dF.lt(h:dF w b n l):b<w.heap.size:=let ⟨_,ho,_⟩:=h;ho.lt
theorem dF.keep{w':ak}(h:dF w b n l)(e:w'.heap[b]?=w.heap[b]?):dF w' b n l:=by
 obtain⟨D,⟨es,clock,hb,r⟩,hh⟩:=h;exact⟨D,⟨es,clock,e.trans hb,r⟩,hh⟩
theorem dF.look(h:dF w b n l)(name:ah)(hn:name.size<=maxLen):(Instr.lookup 85 (.map (some b)) (.string name) false).run Tryz.prog w=.ok (.agg #[.string (fZ l name)]) w:=by
 obtain⟨D,ho,hh⟩:=h;obtain⟨v,ps,hrun,hv⟩:=ho.lookup Ty Tryz.underlying85 (ae2 w) (BQ ⟨#[]⟩) (Ay name hn);obtain⟨s,rfl,hz⟩:=Au hv;have e:=hh.at' name;have e2:DataW.atKey D (jJ name) (.lit (.string []))=.lit (.string s.data.toList):=ig Prod.fst hz;rw[e2] at e
 have e3:s=fZ l name:=by
  injection e with e;injection e with e;rw[oK];exact ByteArray.ext (fJ.1 e)
 rw[hrun,e3]
theorem dF.look_ok(h:dF w b n l)(name:ah)(hn:name.size<=maxLen):(Instr.lookup 85 (.map (some b)) (.string name) true).run Tryz.prog w=.ok (.tuple #[.agg #[.string (fZ l name)],.bool (decide (iW l name≠-1))]) w:=by
 obtain⟨D,ho,hh⟩:=h;obtain⟨v,ps,hrun,hv⟩:=ho.look_ok Ty Tryz.underlying85 (ae2 w) (BQ ⟨#[]⟩) (Ay name hn);obtain⟨s,rfl,hz⟩:=Au hv;have e:=hh.at' name;have e2:DataW.atKey D (jJ name) (.lit (.string []))=.lit (.string s.data.toList):=ig Prod.fst hz;rw[e2] at e
 have e3:s=fZ l name:=by
  injection e with e;injection e with e;rw[oK];exact ByteArray.ext (fJ.1 e)
 rw[hrun,e3,hh.has name,Li]
theorem dF.store(h:dF w b n l)(hn:n<maxLen)(name data:ah)(hk:name.size<=maxLen):
  ∃w',(Instr.mapUpdate 85 (.map (some b)) (.string name) (.agg #[.string data])).run Tryz.prog w=.ok () w'/\dF w' b (n+1) (xB l name data)/\w.grownBy w' (some b):=by
 obtain⟨D,ho,hh⟩:=h;obtain⟨w',hrun,ho',hg⟩:=ho.update Ty Tryz.underlying85 hn (Ay name hk) (BQ data);exact⟨w',hrun,⟨_,ho',hh.put ho.isMap name data⟩,hg⟩
theorem dF.drop(h:dF w b n l)(name:ah)(hk:name.size<=maxLen)(ty:TypeId):
  ∃w',(Builtin.delete_ #[85,9] ty #[.map (some b),.string name]).run Tryz.prog w=.ok (.tuple #[]) w'/\dF w' b n (iO l name)/\w.grownBy w' (some b):=by
 obtain⟨D,ho,hh⟩:=h;obtain⟨w',hrun,ho',hg⟩:=ho.drop Ty Tryz.underlying85 (Ay name hk) ty;exact⟨w',hrun,⟨_,ho',hh.del name⟩,hg.grown⟩
theorem dF.made(w:ak):dF (w.alloc (.map #[] 0)) w.heap.size 0 []:=⟨_,World.ownsMap_made w _ _ _,pQ.empty⟩
theorem XU(name:ah)(hn:name.size<=maxLen)(l:List bP)(d:dX)(fb:Nat)(lk:Int)(nb sb n:Nat)(sv:Value)(w:ak)(h:bH w fb d lk nb sb sv)(hm:dF w nb n l):
  Calls Tryz.prog 125 #[.pointer (some ⟨fb,0,none⟩),.string name] w fun e w'=>e=.returned (.bool (decide (iW l name≠-1)))/\Below w.heap.size w w':=by
 have c3:w.cell? ⟨fb,3,none⟩=some (.map (some nb)):=by rw[aj _ _ _ _ _ _ h];rfl
 have hl:=hm.look_ok name hn;clear h hm;generalize decide (iW l name≠-1)=ok at*;generalize fZ l name=dt at*
 go_enter Tryz.func125,Tryz.ntmps125
 go_wp2
 go_ret;exact⟨rfl,(ay _ _).alloc (ai _) _⟩
end
end Go.Proofs.YthhbpebihgjpjaaGreatDoor
