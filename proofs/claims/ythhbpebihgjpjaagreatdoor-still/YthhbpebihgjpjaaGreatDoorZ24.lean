import Derived.Test.YthhbpebihgjpjaaGreatDoorZ23
import Derived.Deep.RegionHeld3
namespace Go.Proofs.YthhbpebihgjpjaaGreatDoor
set_option maxRecDepth 1000000
set_option maxHeartbeats 20000000
set_option linter.all false
section
open Go.RowKit Go.MuLone Go.Maps
structure Jy(w:ak)(vN vO vR vD:Value):Prop where
 name:w.cell? ⟨0,0,none⟩=some vN
 gone:w.cell? ⟨1,0,none⟩=some vO
 room:w.cell? ⟨2,0,none⟩=some vR
 down:w.cell? ⟨3,0,none⟩=some vD
variable {w w':ak}{vN vO vR vD:Value}
theorem Jy.keep(h:Jy w vN vO vR vD)(hb:∀k,k<14->w'.heap[k]?=w.heap[k]?):Jy w' vN vO vR vD:=
 ⟨(aF (w:=w) (a:=⟨0,0,none⟩) (hb _ bS)).trans h.name,(aF (w:=w) (a:=⟨1,0,none⟩) (hb _ bS)).trans h.gone,(aF (w:=w) (a:=⟨2,0,none⟩) (hb _ bS)).trans h.room,(aF (w:=w) (a:=⟨3,0,none⟩) (hb _ bS)).trans h.down⟩
structure zI(l:List bP)(S:List jB)(vN vO vR vD:Value)(d:dX)(fb nb sb n:Nat)(sv:Value)(lk:Int)(w:ak):Prop where
 row:bH w fb d lk nb sb sv
 map:dF w nb n l
 own:uU sv S w
 errs:Jy w vN vO vR vD
 glob:14<=w.heap.size
variable {l:List bP}{S:List jB}{d:dX}{fb nb sb n:Nat}{sv:Value}{lk:Int}
theorem zI.turns(h:zI l S vN vO vR vD d fb nb sb n sv lk w)(lk':Int)(hr:bH w' fb d lk' nb sb sv)(ht:aW (fun k=>k=fb) w w')(hlow:14<=fb)(hne:sv.ownBlock≠some fb/\sv.ownBlock≠some nb/\fb≠nb):zI l S vN vO vR vD d fb nb sb n sv lk' w':=
 ⟨hr,h.map.keep (ht.block nb h.map.lt (fun e=>hne.2.2 e.symm)),h.own.keep (fun j hj=>ht.block j (h.own.lt j hj) (fun e=>hne.1 (by rw[hj,e]))),h.errs.keep (fun k hk=>ht.block k (aB hk h.glob) aJ),aC h.glob ht.size⟩
theorem zI.below(h:zI l S vN vO vR vD d fb nb sb n sv lk w)(hb:Below w.heap.size w w'):zI l S vN vO vR vD d fb nb sb n sv lk w':=
 ⟨(hb.block fb h.row.lt).trans h.row,h.map.keep (hb.block nb h.map.lt),h.own.keep (fun j hj=>hb.block j (h.own.lt j hj)),h.errs.keep (fun k hk=>hb.block k (aB hk h.glob)),aC h.glob hb.size⟩
theorem zI.still(h:zI l S vN vO vR vD d fb nb sb n sv lk w)(hb:aW (fun _=>False) w w'):zI l S vN vO vR vD d fb nb sb n sv lk w':=
 ⟨(hb.block fb h.row.lt id).trans h.row,h.map.keep (hb.block nb h.map.lt id),h.own.keep (fun j hj=>hb.block j (h.own.lt j hj) id),h.errs.keep (fun k hk=>hb.block k (aB hk h.glob) id),aC h.glob hb.size⟩
theorem zI.lock(h:zI l S vN vO vR vD d fb nb sb n sv lk w)(x:Int)(hlow:14<=fb)(hne:sv.ownBlock≠some fb/\sv.ownBlock≠some nb/\fb≠nb):zI l S vN vO vR vD d fb nb sb n sv x (w.setCell ⟨fb,0,none⟩ (.int .i32 x)):=
 h.turns x (h.row.setLock x) ((aW.refl _ w).setCell ⟨fb,0,none⟩ _ (aK rfl)) hlow hne
def yU(l:List bP)(room:Int)(name data:ah)(vN vR:Value):Option Value:=
 if eU name=true then (if room<(totalBytes l:Int)-(fZ l name).size+data.size then some vR else none) else some vN
theorem Np(name data:ah)(hn:name.size<=maxLen)(hdat:data.size<=140737488351232)(l:List bP)(hd:qI l)(htot:totalBytes l<=1099511627776)(hdt:(fZ l name).size<=1099511627776)(S:List jB)(vN vO vR vD:Value)(d:dX)(fb:Nat)(nb sb n:Nat)(sv:Value)(w:ak)
  (h:zI l S vN vO vR vD d fb nb sb n sv 0 w) (hroom:n<maxLen) (hhi:d.fuse<=9223372036854775807) (hrm:d.room<=65536) (hold:(fZ l name).size<=totalBytes l) (hSl:S.length<=1099511627776) (hlow:14<=fb) (hne:sv.ownBlock≠some fb/\sv.ownBlock≠some nb/\fb≠nb):
  Calls Tryz.prog 49 #[.pointer (some ⟨fb,0,none⟩),.string name,.string data] w (FX (yU l d.room name data vN vR) vD l ⟨1,name,data⟩ S d fb nb sb n sv w):=by
 have hgd:3≠fb:=aJ
 obtain⟨w2,hw2⟩:∃w2,w2=((w.alloc (.cells #[.pointer (some ⟨fb,0,none⟩)] 31)).alloc (.cells #[.string name] 9)):=⟨_,rfl⟩
 have hB:Below w.heap.size w w2:=by rw[hw2];exact((ay _ _).alloc (ai _) _).alloc eB _
 have hI:zI l S vN vO vR vD d fb nb sb n sv 0 w2:=h.below hB
 have hb0:w2.cell? ⟨w.heap.size,0,none⟩=some (.pointer (some ⟨fb,0,none⟩)):=by
  rw[hw2,bU _ _ ⟨w.heap.size,0,none⟩ eB];exact jy w _ _ 0 _ rfl
 have hb1:w2.cell? ⟨w.heap.size+1,0,none⟩=some (.string name):=by
  rw[hw2];simp
 have h0:w2.cell? ⟨fb,0,none⟩=some (.int .i32 0):=by rw[aj _ _ _ _ _ _ hI.row];rfl
 have f0:w2.frozen? ⟨fb,0,none⟩=false:=aD _ _ _ _ _ hI.row;have hfb:fb<w.heap.size:=h.row.lt;have HT:Hid (aW (fun k=>k=fb) w w2):=aW.of_below _ hB;have HI:=aV (hI.lock 1 hlow hne);have HT1:Hid (aW (fun k=>k=fb) w (w2.setCell ⟨fb,0,none⟩ (.int .i32 1))):=HT.out.setCell ⟨fb,0,none⟩ _ (aK rfl)
 have b0:(w2.setCell ⟨fb,0,none⟩ (.int .i32 1)).cell? ⟨w.heap.size,0,none⟩=some (.pointer (some ⟨fb,0,none⟩)):=by
  rw[aF (w:=w2) (a:=⟨w.heap.size,0,none⟩) (au _ _ _ _ (show w.heap.size≠fb by omega))];exact hb0
 have b1:(w2.setCell ⟨fb,0,none⟩ (.int .i32 1)).cell? ⟨w.heap.size+1,0,none⟩=some (.string name):=by
  rw[aF (w:=w2) (a:=⟨w.heap.size+1,0,none⟩) (au _ _ _ _ (show w.heap.size+1≠fb by omega))];exact hb1
 have HH:=aV h;clear h hB hI HT hb0 hb1
 go_enter_defers Tryz.func49,Tryz.ntmps49
 go_wp2_with fail
 rw[<-hw2];refine(lock_free ku ⟨fb,0,none⟩ _ h0 f0).mono ?_;rintro e w1 ⟨rfl,rfl⟩;refine dO ?_;clear h0 f0 hw2;generalize w2.setCell ⟨fb,0,none⟩ (.int .i32 1)=w3 at*;unfold Hid;have e0:w3.cell? ⟨0,0,none⟩=some vN:=HI.out.errs.name;have e2:w3.cell? ⟨2,0,none⟩=some vR:=HI.out.errs.room
 go_wp2_with fail
 refine(sK name w3).mono ?_;rintro e w4 ⟨rfl,rfl⟩
 by_cases hnm:eU name=true
 ·rw[hnm]
  have c2:w4.cell? ⟨fb,2,none⟩=some (.int .i64 d.room):=by rw[aj _ _ _ _ _ _ HI.out.row];rfl
  have c3:w4.cell? ⟨fb,3,none⟩=some (.map (some nb)):=by rw[aj _ _ _ _ _ _ HI.out.row];rfl
  have hl:=(show dF w4.drew nb n l from HI.out.map.keep rfl).look name hn
  have HL5:Hid (∀w5:ak,Below w4.heap.size w4 w5->(Instr.lookup 85 (.map (some nb)) (.string name) false).run Tryz.prog w5=.ok (.agg #[.string (fZ l name)]) w5):=fun w5 hb=>(HI.out.map.keep (hb.block nb HI.out.map.lt)).look name hn
  have HW:Hid (yU l d.room name data vN vR=if d.room<(totalBytes l:Int)-(fZ l name).size+data.size then some vR else none):=by show _=_;rw[yU,aH hnm]
  have HC5:Hid (∀w5:ak,Below w4.heap.size w4 w5->∀k v,w4.cell? k=some v->w5.cell? k=some v):=fun w5 hb k v hk=>(aF (w:=w4) (hb.block k.block (aG hk))).trans hk
  obtain⟨dt,hdtE⟩:∃dt,dt=fZ l name:=⟨_,rfl⟩;rw[<-hdtE] at hl hdt;have HDT:=aV hdtE.symm;have hfd:∀w:ak,(Instr.field 117 (.agg #[.string dt]) 0).run Tryz.prog w=.ok (.string dt) w:=Kc dt;have HBY:Hid (Calls Tryz.prog 74 #[.pointer (some ⟨fb,0,none⟩)] w4.drew fun e w'=>e=.returned (.int .i64 (totalBytes l))/\Below w4.drew.heap.size w4.drew w'):=NS l hd aJ d fb 1 nb sb n sv w4.drew HI.out.row (HI.out.map.keep rfl)
  have HBT:Hid (∀w5,Below w4.drew.heap.size w4.drew w5->aW (fun _=>False) w4 w5/\((w5.cell? ⟨w.heap.size,0,none⟩=some (.pointer (some ⟨fb,0,none⟩))/\w5.cell? ⟨w.heap.size+1,0,none⟩=some (.string name)/\w5.cell? ⟨fb,2,none⟩=some (.int .i64 d.room)/\w5.cell? ⟨fb,3,none⟩=some (.map (some nb))/\(Instr.lookup 85 (.map (some nb)) (.string name) false).run Tryz.prog w5=.ok (.agg #[.string dt]) w5))):=fun w5 hb=>by
   have hk:∀k v,w4.cell? k=some v->w5.cell? k=some v:=fun k v hk=>(aF (w:=w4) (hb.block k.block (aG hk))).trans hk
   have hl5:=(HI.out.map.keep (hb.block nb HI.out.map.lt)).look name hn;rw[HDT.out] at hl5;exact⟨⟨hb.os,hb.output,hb.size,fun k hk _=>hb.block k hk⟩,hk _ _ b0,hk _ _ b1,hk _ _ c2,hk _ _ c3,hl5⟩
  have HT4:Hid (aW (fun _=>False) w4 w4.drew):=⟨rfl,rfl,ai _,fun _ _ _=>rfl⟩
  have hT0:(0:Int)<=(totalBytes l:Int):=aJ
  have hT1:(totalBytes l:Int)<=1099511627776:=aJ
  have hD0:(dt.size:Int)<=1099511627776:=aJ
  have hE0:(data.size:Int)<=140737488351232:=aJ
  have hOT:(dt.size:Int)<=(totalBytes l:Int):=by rw[HDT.out] at hold;omega
  clear hdtE HL5 HC5 htot hold;generalize (totalBytes l:Int)=tot at*
  have k0:IntKind.i64.wrap (tot-(dt.size:Int))=tot-(dt.size:Int):=by rw[gP];omega
  have k1:IntKind.i64.wrap (tot-(dt.size:Int)+(data.size:Int))=tot-(dt.size:Int)+(data.size:Int):=by rw[gP];omega
  go_wp2_with fail
  go_region_held3 (fun w'=>aW (fun _=>False) w4 w'/\(w'.cell? ⟨w.heap.size,0,none⟩=some (.pointer (some ⟨fb,0,none⟩))/\w'.cell? ⟨w.heap.size+1,0,none⟩=some (.string name)/\w'.cell? ⟨fb,2,none⟩=some (.int .i64 d.room)/\w'.cell? ⟨fb,3,none⟩=some (.map (some nb))/\(Instr.lookup 85 (.map (some nb)) (.string name) false).run Tryz.prog w'=.ok (.agg #[.string dt]) w')) (first|exact⟨HT4.out,b0,b1,c2,c3,hl⟩|exact hS5) (first|(go_at_call 74;refine HBY.out.mono ?_;rintro e w5 ⟨rfl,hB5⟩;have hS5:=HBT.out w5 hB5))
  all_goals
   have HI5:=aV (HI.out.still hS5.1);have HT5:Hid (aW (fun k=>k=fb) w w5):=HT1.out.trans hS5.1 (fun i hi=>hi.elim);have b05:=hS5.2.1;have b15:=hS5.2.2.1;have e25:w5.cell? ⟨2,0,none⟩=some vR:=HI5.out.errs.room;rw[HDT.out] at HW;clear hS5 hB5 HBY HBT HT4 HI HT1 e0 e2 b0 b1 c2 c3 hl hfd
   by_cases hrm2:d.room<tot-(dt.size:Int)+(data.size:Int)
   ·have HX:Hid (yU l d.room name data vN vR=some vR):=by show _=_;rw[HW.out,aH hrm2]
    clear HW
    go_wp2
    have HR2:=aV HI5.out.row;refine fA (f:=59) (args:=#[.pointer (some ⟨fb,0,none⟩)]) eB FE ?_;refine(unlock_deferred ku ⟨fb,0,none⟩ .returning _ ?_ ?_).mono ?_;(rw[aj _ _ _ _ _ _ HR2.out];rfl);(exact aD _ _ _ _ _ HR2.out);rintro e u' w'' ⟨rfl,rfl,rfl⟩;refine⟨_,jS rfl _ _ _,?_⟩;have hI9:=HI5.out.lock 0 hlow hne;exact⟨(HT5.out.setCell ⟨fb,0,none⟩ _ (aK rfl)).mono (fun _ hk=>aK hk),aK ⟨vR,HX.out,rfl,hI9.row,hI9.map,hI9.own⟩⟩
   have HX:Hid (yU l d.room name data vN vR=none):=by show _=_;rw[HW.out,aA hrm2]
   clear HW
   have hdat2:data.size<=1099511627776:=aJ
   have HL:=aV (aO HH.out.map.lt HH.out.own.lt)
   go_wp2_with fail
   refine(xA ⟨76,#[.pointer (some ⟨w.heap.size,0,none⟩),.pointer (some ⟨w.heap.size+1,0,none⟩)],data,true⟩ ⟨1,name,data⟩ (fun _=>rfl) S vD l d fb 1 nb sb n sv w5 HI5.out.row HI5.out.map hhi HI5.out.own hSl hne ⟨_,_,b05,b15,aK ⟨rfl,rfl⟩⟩ ?_ hroom hn hdat2 hdat2 (by simp only;rw[HDT.out];exact hdt) HI5.out.errs.down hgd).mono ?_
   ·intro b hb
    simp[lT] at hb
    have hlt:=HL.out;refine⟨aJ,aJ,fun e=>?_⟩;have:=hlt.2 b e;omega
   rintro e w6 hp;have HP:=aV hp;obtain⟨v,rfl⟩:=HP.out.ret;obtain⟨sv2,hr2⟩:=HP.out.row;have HR2:=aV hr2;clear hp hr2
   go_wp2
   refine fA (f:=59) (args:=#[.pointer (some ⟨fb,0,none⟩)]) eB FE ?_;refine(unlock_deferred ku ⟨fb,0,none⟩ .returning _ ?_ ?_).mono ?_;(rw[aj _ _ _ _ _ _ HR2.out];rfl);(exact aD _ _ _ _ _ HR2.out);rintro e u' w'' ⟨rfl,rfl,rfl⟩;refine⟨_,jS rfl _ _ _,?_⟩;exact Jq HX.out hfb HT5.out (fun b hb=>by simp[lT] at hb;omega) HP.out hne
 have hnm2:eU name=false:=by simpa using hnm
 rw[hnm2]
 have HX:Hid (yU l d.room name data vN vR=some vN):=by show _=_;rw[yU,aA hnm]
 go_wp2
 have HR2:=aV HI.out.row;refine fA (f:=59) (args:=#[.pointer (some ⟨fb,0,none⟩)]) eB FE ?_;refine(unlock_deferred ku ⟨fb,0,none⟩ .returning _ ?_ ?_).mono ?_;(rw[aj _ _ _ _ _ _ HR2.out];rfl);(exact aD _ _ _ _ _ HR2.out);rintro e u' w'' ⟨rfl,rfl,rfl⟩;refine⟨_,jS rfl _ _ _,?_⟩;have hI9:=HI.out.lock 0 hlow hne;exact⟨(HT1.out.setCell ⟨fb,0,none⟩ _ (aK rfl)).mono (fun _ hk=>aK hk),aK ⟨vN,HX.out,rfl,hI9.row,hI9.map,hI9.own⟩⟩
def rT(l:List bP)(frm aqB:ah)(vN vO:Value):Option Value:=
 if eU frm=true/\eU aqB=true then (if iW l frm=-1 then some vO else none) else some vN
theorem Lp(frm aqB:ah)(hn:frm.size<=maxLen)(l:List bP)(hdt:(fZ l frm).size<=1099511627776)(S:List jB)(vN vO vR vD:Value)(d:dX)(fb:Nat)(nb sb n:Nat)(sv:Value)(w:ak)
  (h:zI l S vN vO vR vD d fb nb sb n sv 0 w) (hroom:n<maxLen) (hhi:d.fuse<=9223372036854775807) (hSl:S.length<=1099511627776) (hlow:14<=fb) (hne:sv.ownBlock≠some fb/\sv.ownBlock≠some nb/\fb≠nb):
  Calls Tryz.prog 174 #[.pointer (some ⟨fb,0,none⟩),.string frm,.string aqB] w (FX (rT l frm aqB vN vO) vD l ⟨3,frm,aqB⟩ S d fb nb sb n sv w):=by
 have hgd:3≠fb:=aJ
 obtain⟨w2,hw2⟩:∃w2,w2=(((w.alloc (.cells #[.pointer (some ⟨fb,0,none⟩)] 31)).alloc (.cells #[.string frm] 9)).alloc (.cells #[.string aqB] 9)):=⟨_,rfl⟩
 have hB:Below w.heap.size w w2:=by rw[hw2];exact(((ay _ _).alloc (ai _) _).alloc eB _).alloc (by simp;omega) _
 have hI:zI l S vN vO vR vD d fb nb sb n sv 0 w2:=h.below hB
 have hb0:w2.cell? ⟨w.heap.size,0,none⟩=some (.pointer (some ⟨fb,0,none⟩)):=by
  rw[hw2,bU _ _ ⟨w.heap.size,0,none⟩ (by simp;omega),bU _ _ ⟨w.heap.size,0,none⟩ eB];exact jy w _ _ 0 _ rfl
 have hb1:w2.cell? ⟨w.heap.size+1,0,none⟩=some (.string frm):=by
  rw[hw2,bU _ _ ⟨w.heap.size+1,0,none⟩ eB];simp
 have hb2:w2.cell? ⟨w.heap.size+1+1,0,none⟩=some (.string aqB):=by
  have h1:=jy ((w.alloc (.cells #[.pointer (some ⟨fb,0,none⟩)] 31)).alloc (.cells #[.string frm] 9)) #[.string aqB] 9 0 _ rfl;rw[bO,bO] at h1;rw[hw2];exact h1
 have h0:w2.cell? ⟨fb,0,none⟩=some (.int .i32 0):=by rw[aj _ _ _ _ _ _ hI.row];rfl
 have f0:w2.frozen? ⟨fb,0,none⟩=false:=aD _ _ _ _ _ hI.row;have hfb:fb<w.heap.size:=h.row.lt;have HT:Hid (aW (fun k=>k=fb) w w2):=aW.of_below _ hB;have HI:=aV (hI.lock 1 hlow hne);have HT1:Hid (aW (fun k=>k=fb) w (w2.setCell ⟨fb,0,none⟩ (.int .i32 1))):=HT.out.setCell ⟨fb,0,none⟩ _ (aK rfl)
 have b0:(w2.setCell ⟨fb,0,none⟩ (.int .i32 1)).cell? ⟨w.heap.size,0,none⟩=some (.pointer (some ⟨fb,0,none⟩)):=by
  rw[aF (w:=w2) (a:=⟨w.heap.size,0,none⟩) (au _ _ _ _ (show w.heap.size≠fb by omega))];exact hb0
 have b1:(w2.setCell ⟨fb,0,none⟩ (.int .i32 1)).cell? ⟨w.heap.size+1,0,none⟩=some (.string frm):=by
  rw[aF (w:=w2) (a:=⟨w.heap.size+1,0,none⟩) (au _ _ _ _ (show w.heap.size+1≠fb by omega))];exact hb1
 have b2:(w2.setCell ⟨fb,0,none⟩ (.int .i32 1)).cell? ⟨w.heap.size+1+1,0,none⟩=some (.string aqB):=by
  rw[aF (w:=w2) (a:=⟨w.heap.size+1+1,0,none⟩) (au _ _ _ _ (show w.heap.size+1+1≠fb by omega))];exact hb2
 have HH:=aV h;clear h hB hI HT hb0 hb1 hb2
 go_enter_defers Tryz.func174,Tryz.ntmps174
 go_wp2_with fail
 rw[<-hw2];refine(lock_free ku ⟨fb,0,none⟩ _ h0 f0).mono ?_;rintro e w1 ⟨rfl,rfl⟩;refine dO ?_;clear h0 f0 hw2;generalize w2.setCell ⟨fb,0,none⟩ (.int .i32 1)=w3 at*;unfold Hid;have e0:w3.cell? ⟨0,0,none⟩=some vN:=HI.out.errs.name
 go_wp2_with fail
 refine(sK frm w3).mono ?_;rintro e w4 ⟨rfl,rfl⟩
 by_cases hnm:eU frm=true
 ·rw[hnm]
  go_wp2_with fail
  refine(sK aqB w4).mono ?_;rintro e w3 ⟨rfl,rfl⟩
  by_cases hnt:eU aqB=true
  rotate_left
  ·have hnt2:eU aqB=false:=by simpa using hnt
   rw[hnt2]
   have HX:Hid (rT l frm aqB vN vO=some vN):=by show _=_;rw[rT,aA (fun h=>hnt h.2)]
   go_wp2
   have HR2:=aV HI.out.row;refine fA (f:=59) (args:=#[.pointer (some ⟨fb,0,none⟩)]) eB FE ?_;refine(unlock_deferred ku ⟨fb,0,none⟩ .returning _ ?_ ?_).mono ?_;(rw[aj _ _ _ _ _ _ HR2.out];rfl);(exact aD _ _ _ _ _ HR2.out);rintro e u' w'' ⟨rfl,rfl,rfl⟩;refine⟨_,jS rfl _ _ _,?_⟩;have hI9:=HI.out.lock 0 hlow hne;exact⟨(HT1.out.setCell ⟨fb,0,none⟩ _ (aK rfl)).mono (fun _ hk=>aK hk),aK ⟨vN,HX.out,rfl,hI9.row,hI9.map,hI9.own⟩⟩
  have hn2:aqB.size<=1099511627776:=by have:=(fI hnt).2.1;omega
  rw[hnt];have HR4:=aV HI.out.row
  go_wp2_with fail
  refine(XU frm hn l d fb 1 nb sb n sv w3 HI.out.row HI.out.map).mono ?_;rintro e w5 ⟨rfl,hB5⟩;have HI5:=aV (HI.out.below hB5);have HT5:Hid (aW (fun k=>k=fb) w w5):=HT1.out.trans (aW.of_below (fun k=>k=fb) hB5) (fun i hi=>aK hi);have b05:w5.cell? ⟨w.heap.size,0,none⟩=some (.pointer (some ⟨fb,0,none⟩)):=(aF (w:=w3) (a:=⟨w.heap.size,0,none⟩) (hB5.block w.heap.size (aG b0))).trans b0;have b15:w5.cell? ⟨w.heap.size+1,0,none⟩=some (.string frm):=(aF (w:=w3) (a:=⟨w.heap.size+1,0,none⟩) (hB5.block (w.heap.size+1) (aG b1))).trans b1;have b25:w5.cell? ⟨w.heap.size+1+1,0,none⟩=some (.string aqB):=(aF (w:=w3) (a:=⟨w.heap.size+1+1,0,none⟩) (hB5.block (w.heap.size+1+1) (aG b2))).trans b2;have e25:w5.cell? ⟨1,0,none⟩=some vO:=HI5.out.errs.gone;clear hB5 HI HT1 e0 b0 b1 b2 HR4
  by_cases hps:decide (iW l frm≠-1)=true
  ·rw[hps]
   have HX:Hid (rT l frm aqB vN vO=none):=by show _=_;rw[rT,aH ⟨hnm,hnt⟩,aA (by simpa using hps)]
   have HL:=aV (aO HH.out.map.lt HH.out.own.lt)
   go_wp2_with fail
   refine(xA ⟨252,#[.pointer (some ⟨w.heap.size,0,none⟩),.pointer (some ⟨w.heap.size+1,0,none⟩),.pointer (some ⟨w.heap.size+1+1,0,none⟩)],⟨#[]⟩,false⟩ ⟨3,frm,aqB⟩ (fun h=>by simp at h) S vD l d fb 1 nb sb n sv w5 HI5.out.row HI5.out.map hhi HI5.out.own hSl hne ⟨_,_,b05,b15,aP (aP (aK ⟨rfl,_,b25,rfl⟩))⟩ ?_ hroom hn hn2 (aS _) hdt HI5.out.errs.down hgd).mono ?_
   ·intro b hb
    simp[lT] at hb
    have hlt:=HL.out;refine⟨aJ,aJ,fun e=>?_⟩;have:=hlt.2 b e;omega
   rintro e w6 hp;have HP:=aV hp;obtain⟨v,rfl⟩:=HP.out.ret;obtain⟨sv2,hr2⟩:=HP.out.row;have HR2:=aV hr2;clear hp hr2
   go_wp2
   refine fA (f:=59) (args:=#[.pointer (some ⟨fb,0,none⟩)]) eB FE ?_;refine(unlock_deferred ku ⟨fb,0,none⟩ .returning _ ?_ ?_).mono ?_;(rw[aj _ _ _ _ _ _ HR2.out];rfl);(exact aD _ _ _ _ _ HR2.out);rintro e u' w'' ⟨rfl,rfl,rfl⟩;refine⟨_,jS rfl _ _ _,?_⟩;exact Jq HX.out hfb HT5.out (fun b hb=>by simp[lT] at hb;omega) HP.out hne
  have hps2:decide (iW l frm≠-1)=false:=by simpa using hps
  rw[hps2]
  have HX:Hid (rT l frm aqB vN vO=some vO):=by show _=_;rw[rT,aH ⟨hnm,hnt⟩,aH (by simpa using hps)]
  go_wp2
  have HR2:=aV HI5.out.row;refine fA (f:=59) (args:=#[.pointer (some ⟨fb,0,none⟩)]) eB FE ?_;refine(unlock_deferred ku ⟨fb,0,none⟩ .returning _ ?_ ?_).mono ?_;(rw[aj _ _ _ _ _ _ HR2.out];rfl);(exact aD _ _ _ _ _ HR2.out);rintro e u' w'' ⟨rfl,rfl,rfl⟩;refine⟨_,jS rfl _ _ _,?_⟩;have hI9:=HI5.out.lock 0 hlow hne;exact⟨(HT5.out.setCell ⟨fb,0,none⟩ _ (aK rfl)).mono (fun _ hk=>aK hk),aK ⟨vO,HX.out,rfl,hI9.row,hI9.map,hI9.own⟩⟩
 have hnm2:eU frm=false:=by simpa using hnm
 rw[hnm2]
 have HX:Hid (rT l frm aqB vN vO=some vN):=by show _=_;rw[rT,aA (fun h=>hnm h.1)]
 go_wp2
 have HR2:=aV HI.out.row;refine fA (f:=59) (args:=#[.pointer (some ⟨fb,0,none⟩)]) eB FE ?_;refine(unlock_deferred ku ⟨fb,0,none⟩ .returning _ ?_ ?_).mono ?_;(rw[aj _ _ _ _ _ _ HR2.out];rfl);(exact aD _ _ _ _ _ HR2.out);rintro e u' w'' ⟨rfl,rfl,rfl⟩;refine⟨_,jS rfl _ _ _,?_⟩;have hI9:=HI.out.lock 0 hlow hne;exact⟨(HT1.out.setCell ⟨fb,0,none⟩ _ (aK rfl)).mono (fun _ hk=>aK hk),aK ⟨vN,HX.out,rfl,hI9.row,hI9.map,hI9.own⟩⟩
def vV(l:List bP)(room:Int)(name data:ah)(vN vR:Value):Option Value:=
 if eU name=true then (if room<(totalBytes l:Int)+data.size then some vR else none) else some vN
theorem Ll(name data:ah)(hn:name.size<=maxLen)(hdat:data.size<=140737488351232)(l:List bP)(hd:qI l)(htot:totalBytes l<=1099511627776)(hdt:(fZ l name).size<=1099511627776)(S:List jB)(vN vO vR vD:Value)(d:dX)(fb:Nat)(nb sb n:Nat)(sv:Value)(w:ak)
  (h:zI l S vN vO vR vD d fb nb sb n sv 0 w) (hroom:n<maxLen) (hhi:d.fuse<=9223372036854775807) (hrm:d.room<=65536) (hSl:S.length<=1099511627776) (hlow:14<=fb) (hne:sv.ownBlock≠some fb/\sv.ownBlock≠some nb/\fb≠nb):
  Calls Tryz.prog 229 #[.pointer (some ⟨fb,0,none⟩),.string name,.string data] w (FX (vV l d.room name data vN vR) vD l ⟨2,name,data⟩ S d fb nb sb n sv w):=by
 have hgd:3≠fb:=aJ
 obtain⟨w2,hw2⟩:∃w2,w2=((w.alloc (.cells #[.pointer (some ⟨fb,0,none⟩)] 31)).alloc (.cells #[.string name] 9)):=⟨_,rfl⟩
 have hB:Below w.heap.size w w2:=by rw[hw2];exact((ay _ _).alloc (ai _) _).alloc eB _
 have hI:zI l S vN vO vR vD d fb nb sb n sv 0 w2:=h.below hB
 have hb0:w2.cell? ⟨w.heap.size,0,none⟩=some (.pointer (some ⟨fb,0,none⟩)):=by
  rw[hw2,bU _ _ ⟨w.heap.size,0,none⟩ eB];exact jy w _ _ 0 _ rfl
 have hb1:w2.cell? ⟨w.heap.size+1,0,none⟩=some (.string name):=by
  rw[hw2];simp
 have h0:w2.cell? ⟨fb,0,none⟩=some (.int .i32 0):=by rw[aj _ _ _ _ _ _ hI.row];rfl
 have f0:w2.frozen? ⟨fb,0,none⟩=false:=aD _ _ _ _ _ hI.row;have hfb:fb<w.heap.size:=h.row.lt;have HT:Hid (aW (fun k=>k=fb) w w2):=aW.of_below _ hB;have HI:=aV (hI.lock 1 hlow hne);have HT1:Hid (aW (fun k=>k=fb) w (w2.setCell ⟨fb,0,none⟩ (.int .i32 1))):=HT.out.setCell ⟨fb,0,none⟩ _ (aK rfl)
 have b0:(w2.setCell ⟨fb,0,none⟩ (.int .i32 1)).cell? ⟨w.heap.size,0,none⟩=some (.pointer (some ⟨fb,0,none⟩)):=by
  rw[aF (w:=w2) (a:=⟨w.heap.size,0,none⟩) (au _ _ _ _ (show w.heap.size≠fb by omega))];exact hb0
 have b1:(w2.setCell ⟨fb,0,none⟩ (.int .i32 1)).cell? ⟨w.heap.size+1,0,none⟩=some (.string name):=by
  rw[aF (w:=w2) (a:=⟨w.heap.size+1,0,none⟩) (au _ _ _ _ (show w.heap.size+1≠fb by omega))];exact hb1
 have HH:=aV h;clear h hB hI HT hb0 hb1
 go_enter_defers Tryz.func229,Tryz.ntmps229
 go_wp2_with fail
 rw[<-hw2];refine(lock_free ku ⟨fb,0,none⟩ _ h0 f0).mono ?_;rintro e w1 ⟨rfl,rfl⟩;refine dO ?_;clear h0 f0 hw2;generalize w2.setCell ⟨fb,0,none⟩ (.int .i32 1)=w3 at*;unfold Hid;have e0:w3.cell? ⟨0,0,none⟩=some vN:=HI.out.errs.name;have e2:w3.cell? ⟨2,0,none⟩=some vR:=HI.out.errs.room
 go_wp2_with fail
 refine(sK name w3).mono ?_;rintro e w4 ⟨rfl,rfl⟩
 by_cases hnm:eU name=true
 ·rw[hnm]
  have c2:w4.cell? ⟨fb,2,none⟩=some (.int .i64 d.room):=by rw[aj _ _ _ _ _ _ HI.out.row];rfl
  have HW:Hid (vV l d.room name data vN vR=if d.room<(totalBytes l:Int)+data.size then some vR else none):=by show _=_;rw[vV,aH hnm]
  have HBY:Hid (Calls Tryz.prog 74 #[.pointer (some ⟨fb,0,none⟩)] w4.drew fun e w'=>e=.returned (.int .i64 (totalBytes l))/\Below w4.drew.heap.size w4.drew w'):=NS l hd aJ d fb 1 nb sb n sv w4.drew HI.out.row (HI.out.map.keep rfl)
  have HBT:Hid (∀w5,Below w4.drew.heap.size w4.drew w5->aW (fun _=>False) w4 w5/\((w5.cell? ⟨w.heap.size,0,none⟩=some (.pointer (some ⟨fb,0,none⟩))/\w5.cell? ⟨w.heap.size+1,0,none⟩=some (.string name)/\w5.cell? ⟨fb,2,none⟩=some (.int .i64 d.room)))):=fun w5 hb=>by
   have hk:∀k v,w4.cell? k=some v->w5.cell? k=some v:=fun k v hk=>(aF (w:=w4) (hb.block k.block (aG hk))).trans hk
   exact⟨⟨hb.os,hb.output,hb.size,fun k hk _=>hb.block k hk⟩,hk _ _ b0,hk _ _ b1,hk _ _ c2⟩
  have HT4:Hid (aW (fun _=>False) w4 w4.drew):=⟨rfl,rfl,ai _,fun _ _ _=>rfl⟩
  have hT0:(0:Int)<=(totalBytes l:Int):=aJ
  have hT1:(totalBytes l:Int)<=1099511627776:=aJ
  have hE0:(data.size:Int)<=140737488351232:=aJ
  clear htot;generalize (totalBytes l:Int)=tot at*
  have k1:IntKind.i64.wrap (tot+(data.size:Int))=tot+(data.size:Int):=by rw[gP];omega
  go_wp2_with fail
  go_region_held3 (fun w'=>aW (fun _=>False) w4 w'/\(w'.cell? ⟨w.heap.size,0,none⟩=some (.pointer (some ⟨fb,0,none⟩))/\w'.cell? ⟨w.heap.size+1,0,none⟩=some (.string name)/\w'.cell? ⟨fb,2,none⟩=some (.int .i64 d.room))) (first|exact⟨HT4.out,b0,b1,c2⟩|exact hS5) (first|(go_at_call 74;refine HBY.out.mono ?_;rintro e w5 ⟨rfl,hB5⟩;have hS5:=HBT.out w5 hB5))
  all_goals
   have HI5:=aV (HI.out.still hS5.1);have HT5:Hid (aW (fun k=>k=fb) w w5):=HT1.out.trans hS5.1 (fun i hi=>hi.elim);have b05:=hS5.2.1;have b15:=hS5.2.2.1;have e25:w5.cell? ⟨2,0,none⟩=some vR:=HI5.out.errs.room;clear hS5 hB5 HBY HBT HT4 HI HT1 e0 e2 b0 b1 c2
   by_cases hrm2:d.room<tot+(data.size:Int)
   ·have HX:Hid (vV l d.room name data vN vR=some vR):=by show _=_;rw[HW.out,aH hrm2]
    clear HW
    go_wp2
    have HR2:=aV HI5.out.row;refine fA (f:=59) (args:=#[.pointer (some ⟨fb,0,none⟩)]) eB FE ?_;refine(unlock_deferred ku ⟨fb,0,none⟩ .returning _ ?_ ?_).mono ?_;(rw[aj _ _ _ _ _ _ HR2.out];rfl);(exact aD _ _ _ _ _ HR2.out);rintro e u' w'' ⟨rfl,rfl,rfl⟩;refine⟨_,jS rfl _ _ _,?_⟩;have hI9:=HI5.out.lock 0 hlow hne;exact⟨(HT5.out.setCell ⟨fb,0,none⟩ _ (aK rfl)).mono (fun _ hk=>aK hk),aK ⟨vR,HX.out,rfl,hI9.row,hI9.map,hI9.own⟩⟩
   have HX:Hid (vV l d.room name data vN vR=none):=by show _=_;rw[HW.out,aA hrm2]
   clear HW
   have hdat2:data.size<=1099511627776:=aJ
   have HL:=aV (aO HH.out.map.lt HH.out.own.lt)
   go_wp2_with fail
   refine(xA ⟨303,#[.pointer (some ⟨w.heap.size,0,none⟩),.pointer (some ⟨w.heap.size+1,0,none⟩)],data,true⟩ ⟨2,name,data⟩ (fun _=>rfl) S vD l d fb 1 nb sb n sv w5 HI5.out.row HI5.out.map hhi HI5.out.own hSl hne ⟨_,_,b05,b15,aP (aK ⟨rfl,rfl⟩)⟩ ?_ hroom hn hdat2 hdat2 hdt HI5.out.errs.down hgd).mono ?_
   ·intro b hb
    simp[lT] at hb
    have hlt:=HL.out;refine⟨aJ,aJ,fun e=>?_⟩;have:=hlt.2 b e;omega
   rintro e w6 hp;have HP:=aV hp;obtain⟨v,rfl⟩:=HP.out.ret;obtain⟨sv2,hr2⟩:=HP.out.row;have HR2:=aV hr2;clear hp hr2
   go_wp2
   refine fA (f:=59) (args:=#[.pointer (some ⟨fb,0,none⟩)]) eB FE ?_;refine(unlock_deferred ku ⟨fb,0,none⟩ .returning _ ?_ ?_).mono ?_;(rw[aj _ _ _ _ _ _ HR2.out];rfl);(exact aD _ _ _ _ _ HR2.out);rintro e u' w'' ⟨rfl,rfl,rfl⟩;refine⟨_,jS rfl _ _ _,?_⟩;exact Jq HX.out hfb HT5.out (fun b hb=>by simp[lT] at hb;omega) HP.out hne
 have hnm2:eU name=false:=by simpa using hnm
 rw[hnm2]
 have HX:Hid (vV l d.room name data vN vR=some vN):=by show _=_;rw[vV,aA hnm]
 go_wp2
 have HR2:=aV HI.out.row;refine fA (f:=59) (args:=#[.pointer (some ⟨fb,0,none⟩)]) eB FE ?_;refine(unlock_deferred ku ⟨fb,0,none⟩ .returning _ ?_ ?_).mono ?_;(rw[aj _ _ _ _ _ _ HR2.out];rfl);(exact aD _ _ _ _ _ HR2.out);rintro e u' w'' ⟨rfl,rfl,rfl⟩;refine⟨_,jS rfl _ _ _,?_⟩;have hI9:=HI.out.lock 0 hlow hne;exact⟨(HT1.out.setCell ⟨fb,0,none⟩ _ (aK rfl)).mono (fun _ hk=>aK hk),aK ⟨vN,HX.out,rfl,hI9.row,hI9.map,hI9.own⟩⟩
def wm(l:List bP)(name:ah)(vN vO:Value):Option Value:=
 if eU name=true then (if iW l name=-1 then some vO else none) else some vN
theorem Lm(name:ah)(hn:name.size<=maxLen)(l:List bP)(hdt:(fZ l name).size<=1099511627776)(S:List jB)(vN vO vR vD:Value)(d:dX)(fb:Nat)(nb sb n:Nat)(sv:Value)(w:ak)
  (h:zI l S vN vO vR vD d fb nb sb n sv 0 w) (hroom:n<maxLen) (hhi:d.fuse<=9223372036854775807) (hSl:S.length<=1099511627776) (hlow:14<=fb) (hne:sv.ownBlock≠some fb/\sv.ownBlock≠some nb/\fb≠nb):
  Calls Tryz.prog 78 #[.pointer (some ⟨fb,0,none⟩),.string name] w (FX (wm l name vN vO) vD l ⟨4,name,⟨#[]⟩⟩ S d fb nb sb n sv w):=by
 have hgd:3≠fb:=aJ
 obtain⟨w2,hw2⟩:∃w2,w2=((w.alloc (.cells #[.pointer (some ⟨fb,0,none⟩)] 31)).alloc (.cells #[.string name] 9)):=⟨_,rfl⟩
 have hB:Below w.heap.size w w2:=by rw[hw2];exact((ay _ _).alloc (ai _) _).alloc eB _
 have hI:zI l S vN vO vR vD d fb nb sb n sv 0 w2:=h.below hB
 have hb0:w2.cell? ⟨w.heap.size,0,none⟩=some (.pointer (some ⟨fb,0,none⟩)):=by
  rw[hw2,bU _ _ ⟨w.heap.size,0,none⟩ eB];exact jy w _ _ 0 _ rfl
 have hb1:w2.cell? ⟨w.heap.size+1,0,none⟩=some (.string name):=by
  rw[hw2];simp
 have h0:w2.cell? ⟨fb,0,none⟩=some (.int .i32 0):=by rw[aj _ _ _ _ _ _ hI.row];rfl
 have f0:w2.frozen? ⟨fb,0,none⟩=false:=aD _ _ _ _ _ hI.row;have hfb:fb<w.heap.size:=h.row.lt;have HT:Hid (aW (fun k=>k=fb) w w2):=aW.of_below _ hB;have HI:=aV (hI.lock 1 hlow hne);have HT1:Hid (aW (fun k=>k=fb) w (w2.setCell ⟨fb,0,none⟩ (.int .i32 1))):=HT.out.setCell ⟨fb,0,none⟩ _ (aK rfl)
 have b0:(w2.setCell ⟨fb,0,none⟩ (.int .i32 1)).cell? ⟨w.heap.size,0,none⟩=some (.pointer (some ⟨fb,0,none⟩)):=by
  rw[aF (w:=w2) (a:=⟨w.heap.size,0,none⟩) (au _ _ _ _ (show w.heap.size≠fb by omega))];exact hb0
 have b1:(w2.setCell ⟨fb,0,none⟩ (.int .i32 1)).cell? ⟨w.heap.size+1,0,none⟩=some (.string name):=by
  rw[aF (w:=w2) (a:=⟨w.heap.size+1,0,none⟩) (au _ _ _ _ (show w.heap.size+1≠fb by omega))];exact hb1
 have HH:=aV h;clear h hB hI HT hb0 hb1
 go_enter_defers Tryz.func78,Tryz.ntmps78
 go_wp2_with fail
 rw[<-hw2];refine(lock_free ku ⟨fb,0,none⟩ _ h0 f0).mono ?_;rintro e w1 ⟨rfl,rfl⟩;refine dO ?_;clear h0 f0 hw2;generalize w2.setCell ⟨fb,0,none⟩ (.int .i32 1)=w3 at*;unfold Hid;have e0:w3.cell? ⟨0,0,none⟩=some vN:=HI.out.errs.name
 go_wp2_with fail
 refine(sK name w3).mono ?_;rintro e w4 ⟨rfl,rfl⟩
 by_cases hnm:eU name=true
 ·rw[hnm];have HR4:=aV HI.out.row
  go_wp2_with fail
  refine(XU name hn l d fb 1 nb sb n sv w4 HI.out.row HI.out.map).mono ?_;rintro e w5 ⟨rfl,hB5⟩;have HI5:=aV (HI.out.below hB5);have HT5:Hid (aW (fun k=>k=fb) w w5):=HT1.out.trans (aW.of_below (fun k=>k=fb) hB5) (fun i hi=>aK hi);have b05:w5.cell? ⟨w.heap.size,0,none⟩=some (.pointer (some ⟨fb,0,none⟩)):=(aF (w:=w4) (a:=⟨w.heap.size,0,none⟩) (hB5.block w.heap.size (aG b0))).trans b0;have b15:w5.cell? ⟨w.heap.size+1,0,none⟩=some (.string name):=(aF (w:=w4) (a:=⟨w.heap.size+1,0,none⟩) (hB5.block (w.heap.size+1) (aG b1))).trans b1;have e25:w5.cell? ⟨1,0,none⟩=some vO:=HI5.out.errs.gone;clear hB5 HI HT1 e0 b0 b1 HR4
  by_cases hps:decide (iW l name≠-1)=true
  ·rw[hps]
   have HX:Hid (wm l name vN vO=none):=by show _=_;rw[wm,aH hnm,aA (by simpa using hps)]
   have HL:=aV (aO HH.out.map.lt HH.out.own.lt)
   go_wp2_with fail
   refine(xA ⟨126,#[.pointer (some ⟨w.heap.size,0,none⟩),.pointer (some ⟨w.heap.size+1,0,none⟩)],⟨#[]⟩,false⟩ ⟨4,name,⟨#[]⟩⟩ (fun _=>rfl) S vD l d fb 1 nb sb n sv w5 HI5.out.row HI5.out.map hhi HI5.out.own hSl hne ⟨_,_,b05,b15,aP (aP (aP ⟨rfl,rfl⟩))⟩ ?_ hroom hn (aS _) (aS _) hdt HI5.out.errs.down hgd).mono ?_
   ·intro b hb
    simp[lT] at hb
    have hlt:=HL.out;refine⟨aJ,aJ,fun e=>?_⟩;have:=hlt.2 b e;omega
   rintro e w6 hp;have HP:=aV hp;obtain⟨v,rfl⟩:=HP.out.ret;obtain⟨sv2,hr2⟩:=HP.out.row;have HR2:=aV hr2;clear hp hr2
   go_wp2
   refine fA (f:=59) (args:=#[.pointer (some ⟨fb,0,none⟩)]) eB FE ?_;refine(unlock_deferred ku ⟨fb,0,none⟩ .returning _ ?_ ?_).mono ?_;(rw[aj _ _ _ _ _ _ HR2.out];rfl);(exact aD _ _ _ _ _ HR2.out);rintro e u' w'' ⟨rfl,rfl,rfl⟩;refine⟨_,jS rfl _ _ _,?_⟩;exact Jq HX.out hfb HT5.out (fun b hb=>by simp[lT] at hb;omega) HP.out hne
  have hps2:decide (iW l name≠-1)=false:=by simpa using hps
  rw[hps2]
  have HX:Hid (wm l name vN vO=some vO):=by show _=_;rw[wm,aH hnm,aH (by simpa using hps)]
  go_wp2
  have HR2:=aV HI5.out.row;refine fA (f:=59) (args:=#[.pointer (some ⟨fb,0,none⟩)]) eB FE ?_;refine(unlock_deferred ku ⟨fb,0,none⟩ .returning _ ?_ ?_).mono ?_;(rw[aj _ _ _ _ _ _ HR2.out];rfl);(exact aD _ _ _ _ _ HR2.out);rintro e u' w'' ⟨rfl,rfl,rfl⟩;refine⟨_,jS rfl _ _ _,?_⟩;have hI9:=HI5.out.lock 0 hlow hne;exact⟨(HT5.out.setCell ⟨fb,0,none⟩ _ (aK rfl)).mono (fun _ hk=>aK hk),aK ⟨vO,HX.out,rfl,hI9.row,hI9.map,hI9.own⟩⟩
 have hnm2:eU name=false:=by simpa using hnm
 rw[hnm2]
 have HX:Hid (wm l name vN vO=some vN):=by show _=_;rw[wm,aA hnm]
 go_wp2
 have HR2:=aV HI.out.row;refine fA (f:=59) (args:=#[.pointer (some ⟨fb,0,none⟩)]) eB FE ?_;refine(unlock_deferred ku ⟨fb,0,none⟩ .returning _ ?_ ?_).mono ?_;(rw[aj _ _ _ _ _ _ HR2.out];rfl);(exact aD _ _ _ _ _ HR2.out);rintro e u' w'' ⟨rfl,rfl,rfl⟩;refine⟨_,jS rfl _ _ _,?_⟩;have hI9:=HI.out.lock 0 hlow hne;exact⟨(HT1.out.setCell ⟨fb,0,none⟩ _ (aK rfl)).mono (fun _ hk=>aK hk),aK ⟨vN,HX.out,rfl,hI9.row,hI9.map,hI9.own⟩⟩
end
end Go.Proofs.YthhbpebihgjpjaaGreatDoor
