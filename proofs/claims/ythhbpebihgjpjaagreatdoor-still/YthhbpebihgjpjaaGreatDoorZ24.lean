import Derived.Test.YthhbpebihgjpjaaGreatDoorZ23
import Derived.Deep.RegionHeld3
namespace Go.Proofs.YthhbpebihgjpjaaGreatDoor
set_option maxRecDepth 1000000
set_option maxHeartbeats 20000000
set_option linter.all false
section
open Go.RowKit Go.MuLone Go.Maps
structure Jv(w:aj)(vN vO vR vD:Value):Prop where
 name:w.cell? ⟨0,0,none⟩=some vN
 gone:w.cell? ⟨1,0,none⟩=some vO
 room:w.cell? ⟨2,0,none⟩=some vR
 down:w.cell? ⟨3,0,none⟩=some vD
variable {w w':aj}{vN vO vR vD:Value}
theorem Jv.keep(h:Jv w vN vO vR vD)(hb:∀k,k<14->w'.heap[k]?=w.heap[k]?):Jv w' vN vO vR vD:=
 ⟨(aB (w:=w) (a:=⟨0,0,none⟩) (hb _ (by decide))).trans h.name,(aB (w:=w) (a:=⟨1,0,none⟩) (hb _ (by decide))).trans h.gone,(aB (w:=w) (a:=⟨2,0,none⟩) (hb _ (by decide))).trans h.room,(aB (w:=w) (a:=⟨3,0,none⟩) (hb _ (by decide))).trans h.down⟩
structure zG(l:List bL)(S:List jv)(vN vO vR vD:Value)(d:dQ)(fb nb sb n:Nat)(sv:Value)(lk:Int)(w:aj):Prop where
 row:bC w fb d lk nb sb sv
 map:dw w nb n l
 own:uS sv S w
 errs:Jv w vN vO vR vD
 glob:14<=w.heap.size
variable {l:List bL}{S:List jv}{d:dQ}{fb nb sb n:Nat}{sv:Value}{lk:Int}
theorem zG.turns(h:zG l S vN vO vR vD d fb nb sb n sv lk w)(lk':Int)(hr:bC w' fb d lk' nb sb sv)(ht:aQ (fun k=>k=fb) w w')(hlow:14<=fb)(hne:sv.ownBlock≠some fb/\sv.ownBlock≠some nb/\fb≠nb):zG l S vN vO vR vD d fb nb sb n sv lk' w':=
 ⟨hr,h.map.keep (ht.block nb h.map.lt (fun e=>hne.2.2 e.symm)),h.own.keep (fun j hj=>ht.block j (h.own.lt j hj) (fun e=>hne.1 (by rw[hj,e]))),h.errs.keep (fun k hk=>ht.block k (ay hk h.glob) (by omega)),aA h.glob ht.size⟩
theorem zG.below(h:zG l S vN vO vR vD d fb nb sb n sv lk w)(hb:Below w.heap.size w w'):zG l S vN vO vR vD d fb nb sb n sv lk w':=
 ⟨(hb.block fb h.row.lt).trans h.row,h.map.keep (hb.block nb h.map.lt),h.own.keep (fun j hj=>hb.block j (h.own.lt j hj)),h.errs.keep (fun k hk=>hb.block k (ay hk h.glob)),aA h.glob hb.size⟩
theorem zG.still(h:zG l S vN vO vR vD d fb nb sb n sv lk w)(hb:aQ (fun _=>False) w w'):zG l S vN vO vR vD d fb nb sb n sv lk w':=
 ⟨(hb.block fb h.row.lt id).trans h.row,h.map.keep (hb.block nb h.map.lt id),h.own.keep (fun j hj=>hb.block j (h.own.lt j hj) id),h.errs.keep (fun k hk=>hb.block k (ay hk h.glob) id),aA h.glob hb.size⟩
theorem zG.lock(h:zG l S vN vO vR vD d fb nb sb n sv lk w)(x:Int)(hlow:14<=fb)(hne:sv.ownBlock≠some fb/\sv.ownBlock≠some nb/\fb≠nb):zG l S vN vO vR vD d fb nb sb n sv x (w.setCell ⟨fb,0,none⟩ (.int .i32 x)):=
 h.turns x (h.row.setLock x) ((aQ.refl _ w).setCell ⟨fb,0,none⟩ _ (aG rfl)) hlow hne
def yS(l:List bL)(room:Int)(name data:ah)(vN vR:Value):Option Value:=
 if eD name=true then (if room<(totalBytes l:Int)-(fO l name).size+data.size then some vR else none) else some vN
theorem Nl(name data:ah)(hn:name.size<=maxLen)(hdat:data.size<=140737488351232)(l:List bL)(hd:qE l)(htot:totalBytes l<=1099511627776)(hdt:(fO l name).size<=1099511627776)(S:List jv)(vN vO vR vD:Value)(d:dQ)(fb:Nat)(nb sb n:Nat)(sv:Value)(w:aj)
  (h:zG l S vN vO vR vD d fb nb sb n sv 0 w) (hroom:n<maxLen) (hhi:d.fuse<=9223372036854775807) (hrm:d.room<=65536) (hold:(fO l name).size<=totalBytes l) (hSl:S.length<=1099511627776) (hlow:14<=fb) (hne:sv.ownBlock≠some fb/\sv.ownBlock≠some nb/\fb≠nb):
  Calls Tryz.prog 49 #[.pointer (some ⟨fb,0,none⟩),.string name,.string data] w (FV (yS l d.room name data vN vR) vD l ⟨1,name,data⟩ S d fb nb sb n sv w):=by
 have hgd:3≠fb:=by omega
 obtain⟨w2,hw2⟩:∃w2,w2=((w.alloc (.cells #[.pointer (some ⟨fb,0,none⟩)] 31)).alloc (.cells #[.string name] 9)):=⟨_,rfl⟩
 have hB:Below w.heap.size w w2:=by rw[hw2];exact((au _ _).alloc (ai _) _).alloc (by simp) _
 have hI:zG l S vN vO vR vD d fb nb sb n sv 0 w2:=h.below hB
 have hb0:w2.cell? ⟨w.heap.size,0,none⟩=some (.pointer (some ⟨fb,0,none⟩)):=by
  rw[hw2,bO _ _ ⟨w.heap.size,0,none⟩ (by simp)];exact jq w _ _ 0 _ rfl
 have hb1:w2.cell? ⟨w.heap.size+1,0,none⟩=some (.string name):=by
  rw[hw2];simp
 have h0:w2.cell? ⟨fb,0,none⟩=some (.int .i32 0):=by rw[bZ hI.row];rfl
 have f0:w2.frozen? ⟨fb,0,none⟩=false:=iG hI.row;have hfb:fb<w.heap.size:=h.row.lt;have HT:Hid (aQ (fun k=>k=fb) w w2):=aQ.of_below _ hB;have HI:=aP (hI.lock 1 hlow hne);have HT1:Hid (aQ (fun k=>k=fb) w (w2.setCell ⟨fb,0,none⟩ (.int .i32 1))):=HT.out.setCell ⟨fb,0,none⟩ _ (aG rfl)
 have b0:(w2.setCell ⟨fb,0,none⟩ (.int .i32 1)).cell? ⟨w.heap.size,0,none⟩=some (.pointer (some ⟨fb,0,none⟩)):=by
  rw[aB (w:=w2) (a:=⟨w.heap.size,0,none⟩) (iP (show w.heap.size≠fb by omega))];exact hb0
 have b1:(w2.setCell ⟨fb,0,none⟩ (.int .i32 1)).cell? ⟨w.heap.size+1,0,none⟩=some (.string name):=by
  rw[aB (w:=w2) (a:=⟨w.heap.size+1,0,none⟩) (iP (show w.heap.size+1≠fb by omega))];exact hb1
 have HH:=aP h;clear h hB hI HT hb0 hb1
 go_enter_defers Tryz.func49,Tryz.ntmps49
 go_wp2_with fail
 rw[<-hw2];refine(lock_free kg ⟨fb,0,none⟩ _ h0 f0).mono ?_;rintro e w1 ⟨rfl,rfl⟩;refine dI ?_;clear h0 f0 hw2;generalize w2.setCell ⟨fb,0,none⟩ (.int .i32 1)=w3 at*;unfold Hid;have e0:w3.cell? ⟨0,0,none⟩=some vN:=HI.out.errs.name;have e2:w3.cell? ⟨2,0,none⟩=some vR:=HI.out.errs.room
 go_wp2_with fail
 refine(sG name w3).mono ?_;rintro e w4 ⟨rfl,rfl⟩
 by_cases hnm:eD name=true
 ·rw[hnm]
  have c2:w4.cell? ⟨fb,2,none⟩=some (.int .i64 d.room):=by rw[bZ HI.out.row];rfl
  have c3:w4.cell? ⟨fb,3,none⟩=some (.map (some nb)):=by rw[bZ HI.out.row];rfl
  have hl:=(show dw w4.drew nb n l from HI.out.map.keep rfl).look name hn
  have HL5:Hid (∀w5:aj,Below w4.heap.size w4 w5->(Instr.lookup 85 (.map (some nb)) (.string name) false).run Tryz.prog w5=.ok (.agg #[.string (fO l name)]) w5):=fun w5 hb=>(HI.out.map.keep (hb.block nb HI.out.map.lt)).look name hn
  have HW:Hid (yS l d.room name data vN vR=if d.room<(totalBytes l:Int)-(fO l name).size+data.size then some vR else none):=by show _=_;rw[yS,aD hnm]
  have HC5:Hid (∀w5:aj,Below w4.heap.size w4 w5->∀k v,w4.cell? k=some v->w5.cell? k=some v):=fun w5 hb k v hk=>(aB (w:=w4) (hb.block k.block (aC hk))).trans hk
  obtain⟨dt,hdtE⟩:∃dt,dt=fO l name:=⟨_,rfl⟩;rw[<-hdtE] at hl hdt;have HDT:=aP hdtE.symm;have hfd:∀w:aj,(Instr.field 117 (.agg #[.string dt]) 0).run Tryz.prog w=.ok (.string dt) w:=Kc dt;have HBY:Hid (Calls Tryz.prog 74 #[.pointer (some ⟨fb,0,none⟩)] w4.drew fun e w'=>e=.returned (.int .i64 (totalBytes l))/\Below w4.drew.heap.size w4.drew w'):=NP l hd (by omega) d fb 1 nb sb n sv w4.drew HI.out.row (HI.out.map.keep rfl)
  have HBT:Hid (∀w5,Below w4.drew.heap.size w4.drew w5->aQ (fun _=>False) w4 w5/\((w5.cell? ⟨w.heap.size,0,none⟩=some (.pointer (some ⟨fb,0,none⟩))/\w5.cell? ⟨w.heap.size+1,0,none⟩=some (.string name)/\w5.cell? ⟨fb,2,none⟩=some (.int .i64 d.room)/\w5.cell? ⟨fb,3,none⟩=some (.map (some nb))/\(Instr.lookup 85 (.map (some nb)) (.string name) false).run Tryz.prog w5=.ok (.agg #[.string dt]) w5))):=fun w5 hb=>by
   have hk:∀k v,w4.cell? k=some v->w5.cell? k=some v:=fun k v hk=>(aB (w:=w4) (hb.block k.block (aC hk))).trans hk
   have hl5:=(HI.out.map.keep (hb.block nb HI.out.map.lt)).look name hn;rw[HDT.out] at hl5;exact⟨⟨hb.os,hb.output,hb.size,fun k hk _=>hb.block k hk⟩,hk _ _ b0,hk _ _ b1,hk _ _ c2,hk _ _ c3,hl5⟩
  have HT4:Hid (aQ (fun _=>False) w4 w4.drew):=⟨rfl,rfl,ai _,fun _ _ _=>rfl⟩
  have hT0:(0:Int)<=(totalBytes l:Int):=by omega
  have hT1:(totalBytes l:Int)<=1099511627776:=by omega
  have hD0:(dt.size:Int)<=1099511627776:=by omega
  have hE0:(data.size:Int)<=140737488351232:=by omega
  have hOT:(dt.size:Int)<=(totalBytes l:Int):=by rw[HDT.out] at hold;omega
  clear hdtE HL5 HC5 htot hold;generalize (totalBytes l:Int)=tot at*
  have k0:IntKind.i64.wrap (tot-(dt.size:Int))=tot-(dt.size:Int):=by rw[gH];omega
  have k1:IntKind.i64.wrap (tot-(dt.size:Int)+(data.size:Int))=tot-(dt.size:Int)+(data.size:Int):=by rw[gH];omega
  go_wp2_with fail
  go_region_held3 (fun w'=>aQ (fun _=>False) w4 w'/\(w'.cell? ⟨w.heap.size,0,none⟩=some (.pointer (some ⟨fb,0,none⟩))/\w'.cell? ⟨w.heap.size+1,0,none⟩=some (.string name)/\w'.cell? ⟨fb,2,none⟩=some (.int .i64 d.room)/\w'.cell? ⟨fb,3,none⟩=some (.map (some nb))/\(Instr.lookup 85 (.map (some nb)) (.string name) false).run Tryz.prog w'=.ok (.agg #[.string dt]) w')) (first|exact⟨HT4.out,b0,b1,c2,c3,hl⟩|exact hS5) (first|(go_at_call 74;refine HBY.out.mono ?_;rintro e w5 ⟨rfl,hB5⟩;have hS5:=HBT.out w5 hB5))
  all_goals
   have HI5:=aP (HI.out.still hS5.1);have HT5:Hid (aQ (fun k=>k=fb) w w5):=HT1.out.trans hS5.1 (fun i hi=>hi.elim);have b05:=hS5.2.1;have b15:=hS5.2.2.1;have e25:w5.cell? ⟨2,0,none⟩=some vR:=HI5.out.errs.room;rw[HDT.out] at HW;clear hS5 hB5 HBY HBT HT4 HI HT1 e0 e2 b0 b1 c2 c3 hl hfd
   by_cases hrm2:d.room<tot-(dt.size:Int)+(data.size:Int)
   ·have HX:Hid (yS l d.room name data vN vR=some vR):=by show _=_;rw[HW.out,aD hrm2]
    clear HW
    go_wp2
    have HR2:=aP HI5.out.row;refine eY (f:=59) (args:=#[.pointer (some ⟨fb,0,none⟩)]) (by simp) (by simp[go_sem]) ?_;refine(unlock_deferred kg ⟨fb,0,none⟩ .returning _ ?_ ?_).mono ?_;(rw[bZ HR2.out];rfl);(exact iG HR2.out);rintro e u' w'' ⟨rfl,rfl,rfl⟩;refine⟨_,jO rfl _ _ _,?_⟩;have hI9:=HI5.out.lock 0 hlow hne;exact⟨(HT5.out.setCell ⟨fb,0,none⟩ _ (aG rfl)).mono (fun _ hk=>aG hk),aG ⟨vR,HX.out,rfl,hI9.row,hI9.map,hI9.own⟩⟩
   have HX:Hid (yS l d.room name data vN vR=none):=by show _=_;rw[HW.out,ax hrm2]
   clear HW
   have hdat2:data.size<=1099511627776:=by omega
   have HL:=aP (aK HH.out.map.lt HH.out.own.lt)
   go_wp2_with fail
   refine(xk ⟨76,#[.pointer (some ⟨w.heap.size,0,none⟩),.pointer (some ⟨w.heap.size+1,0,none⟩)],data,true⟩ ⟨1,name,data⟩ (fun _=>rfl) S vD l d fb 1 nb sb n sv w5 HI5.out.row HI5.out.map hhi HI5.out.own hSl hne ⟨_,_,b05,b15,aG ⟨rfl,rfl⟩⟩ ?_ hroom hn hdat2 hdat2 (by simp only;rw[HDT.out];exact hdt) HI5.out.errs.down hgd).mono ?_
   ·intro b hb
    simp[lM] at hb
    have hlt:=HL.out;refine⟨by omega,by omega,fun e=>?_⟩;have:=hlt.2 b e;omega
   rintro e w6 hp;have HP:=aP hp;obtain⟨v,rfl⟩:=HP.out.ret;obtain⟨sv2,hr2⟩:=HP.out.row;have HR2:=aP hr2;clear hp hr2
   go_wp2
   refine eY (f:=59) (args:=#[.pointer (some ⟨fb,0,none⟩)]) (by simp) (by simp[go_sem]) ?_;refine(unlock_deferred kg ⟨fb,0,none⟩ .returning _ ?_ ?_).mono ?_;(rw[bZ HR2.out];rfl);(exact iG HR2.out);rintro e u' w'' ⟨rfl,rfl,rfl⟩;refine⟨_,jO rfl _ _ _,?_⟩;exact Jo HX.out hfb HT5.out (fun b hb=>by simp[lM] at hb;omega) HP.out hne
 have hnm2:eD name=false:=by simpa using hnm
 rw[hnm2]
 have HX:Hid (yS l d.room name data vN vR=some vN):=by show _=_;rw[yS,ax hnm]
 go_wp2
 have HR2:=aP HI.out.row;refine eY (f:=59) (args:=#[.pointer (some ⟨fb,0,none⟩)]) (by simp) (by simp[go_sem]) ?_;refine(unlock_deferred kg ⟨fb,0,none⟩ .returning _ ?_ ?_).mono ?_;(rw[bZ HR2.out];rfl);(exact iG HR2.out);rintro e u' w'' ⟨rfl,rfl,rfl⟩;refine⟨_,jO rfl _ _ _,?_⟩;have hI9:=HI.out.lock 0 hlow hne;exact⟨(HT1.out.setCell ⟨fb,0,none⟩ _ (aG rfl)).mono (fun _ hk=>aG hk),aG ⟨vN,HX.out,rfl,hI9.row,hI9.map,hI9.own⟩⟩
def rP(l:List bL)(frm aqB:ah)(vN vO:Value):Option Value:=
 if eD frm=true/\eD aqB=true then (if iQ l frm=-1 then some vO else none) else some vN
theorem Lp(frm aqB:ah)(hn:frm.size<=maxLen)(l:List bL)(hdt:(fO l frm).size<=1099511627776)(S:List jv)(vN vO vR vD:Value)(d:dQ)(fb:Nat)(nb sb n:Nat)(sv:Value)(w:aj)
  (h:zG l S vN vO vR vD d fb nb sb n sv 0 w) (hroom:n<maxLen) (hhi:d.fuse<=9223372036854775807) (hSl:S.length<=1099511627776) (hlow:14<=fb) (hne:sv.ownBlock≠some fb/\sv.ownBlock≠some nb/\fb≠nb):
  Calls Tryz.prog 174 #[.pointer (some ⟨fb,0,none⟩),.string frm,.string aqB] w (FV (rP l frm aqB vN vO) vD l ⟨3,frm,aqB⟩ S d fb nb sb n sv w):=by
 have hgd:3≠fb:=by omega
 obtain⟨w2,hw2⟩:∃w2,w2=(((w.alloc (.cells #[.pointer (some ⟨fb,0,none⟩)] 31)).alloc (.cells #[.string frm] 9)).alloc (.cells #[.string aqB] 9)):=⟨_,rfl⟩
 have hB:Below w.heap.size w w2:=by rw[hw2];exact(((au _ _).alloc (ai _) _).alloc (by simp) _).alloc (by simp;omega) _
 have hI:zG l S vN vO vR vD d fb nb sb n sv 0 w2:=h.below hB
 have hb0:w2.cell? ⟨w.heap.size,0,none⟩=some (.pointer (some ⟨fb,0,none⟩)):=by
  rw[hw2,bO _ _ ⟨w.heap.size,0,none⟩ (by simp;omega),bO _ _ ⟨w.heap.size,0,none⟩ (by simp)];exact jq w _ _ 0 _ rfl
 have hb1:w2.cell? ⟨w.heap.size+1,0,none⟩=some (.string frm):=by
  rw[hw2,bO _ _ ⟨w.heap.size+1,0,none⟩ (by simp)];simp
 have hb2:w2.cell? ⟨w.heap.size+1+1,0,none⟩=some (.string aqB):=by
  have h1:=jq ((w.alloc (.cells #[.pointer (some ⟨fb,0,none⟩)] 31)).alloc (.cells #[.string frm] 9)) #[.string aqB] 9 0 _ rfl;rw[bJ,bJ] at h1;rw[hw2];exact h1
 have h0:w2.cell? ⟨fb,0,none⟩=some (.int .i32 0):=by rw[bZ hI.row];rfl
 have f0:w2.frozen? ⟨fb,0,none⟩=false:=iG hI.row;have hfb:fb<w.heap.size:=h.row.lt;have HT:Hid (aQ (fun k=>k=fb) w w2):=aQ.of_below _ hB;have HI:=aP (hI.lock 1 hlow hne);have HT1:Hid (aQ (fun k=>k=fb) w (w2.setCell ⟨fb,0,none⟩ (.int .i32 1))):=HT.out.setCell ⟨fb,0,none⟩ _ (aG rfl)
 have b0:(w2.setCell ⟨fb,0,none⟩ (.int .i32 1)).cell? ⟨w.heap.size,0,none⟩=some (.pointer (some ⟨fb,0,none⟩)):=by
  rw[aB (w:=w2) (a:=⟨w.heap.size,0,none⟩) (iP (show w.heap.size≠fb by omega))];exact hb0
 have b1:(w2.setCell ⟨fb,0,none⟩ (.int .i32 1)).cell? ⟨w.heap.size+1,0,none⟩=some (.string frm):=by
  rw[aB (w:=w2) (a:=⟨w.heap.size+1,0,none⟩) (iP (show w.heap.size+1≠fb by omega))];exact hb1
 have b2:(w2.setCell ⟨fb,0,none⟩ (.int .i32 1)).cell? ⟨w.heap.size+1+1,0,none⟩=some (.string aqB):=by
  rw[aB (w:=w2) (a:=⟨w.heap.size+1+1,0,none⟩) (iP (show w.heap.size+1+1≠fb by omega))];exact hb2
 have HH:=aP h;clear h hB hI HT hb0 hb1 hb2
 go_enter_defers Tryz.func174,Tryz.ntmps174
 go_wp2_with fail
 rw[<-hw2];refine(lock_free kg ⟨fb,0,none⟩ _ h0 f0).mono ?_;rintro e w1 ⟨rfl,rfl⟩;refine dI ?_;clear h0 f0 hw2;generalize w2.setCell ⟨fb,0,none⟩ (.int .i32 1)=w3 at*;unfold Hid;have e0:w3.cell? ⟨0,0,none⟩=some vN:=HI.out.errs.name
 go_wp2_with fail
 refine(sG frm w3).mono ?_;rintro e w4 ⟨rfl,rfl⟩
 by_cases hnm:eD frm=true
 ·rw[hnm]
  go_wp2_with fail
  refine(sG aqB w4).mono ?_;rintro e w3 ⟨rfl,rfl⟩
  by_cases hnt:eD aqB=true
  rotate_left
  ·have hnt2:eD aqB=false:=by simpa using hnt
   rw[hnt2]
   have HX:Hid (rP l frm aqB vN vO=some vN):=by show _=_;rw[rP,ax (fun h=>hnt h.2)]
   go_wp2
   have HR2:=aP HI.out.row;refine eY (f:=59) (args:=#[.pointer (some ⟨fb,0,none⟩)]) (by simp) (by simp[go_sem]) ?_;refine(unlock_deferred kg ⟨fb,0,none⟩ .returning _ ?_ ?_).mono ?_;(rw[bZ HR2.out];rfl);(exact iG HR2.out);rintro e u' w'' ⟨rfl,rfl,rfl⟩;refine⟨_,jO rfl _ _ _,?_⟩;have hI9:=HI.out.lock 0 hlow hne;exact⟨(HT1.out.setCell ⟨fb,0,none⟩ _ (aG rfl)).mono (fun _ hk=>aG hk),aG ⟨vN,HX.out,rfl,hI9.row,hI9.map,hI9.own⟩⟩
  have hn2:aqB.size<=1099511627776:=by have:=(fC hnt).2.1;omega
  rw[hnt];have HR4:=aP HI.out.row
  go_wp2_with fail
  refine(XT frm hn l d fb 1 nb sb n sv w3 HI.out.row HI.out.map).mono ?_;rintro e w5 ⟨rfl,hB5⟩;have HI5:=aP (HI.out.below hB5);have HT5:Hid (aQ (fun k=>k=fb) w w5):=HT1.out.trans (aQ.of_below (fun k=>k=fb) hB5) (fun i hi=>aG hi);have b05:w5.cell? ⟨w.heap.size,0,none⟩=some (.pointer (some ⟨fb,0,none⟩)):=(aB (w:=w3) (a:=⟨w.heap.size,0,none⟩) (hB5.block w.heap.size (aC b0))).trans b0;have b15:w5.cell? ⟨w.heap.size+1,0,none⟩=some (.string frm):=(aB (w:=w3) (a:=⟨w.heap.size+1,0,none⟩) (hB5.block (w.heap.size+1) (aC b1))).trans b1;have b25:w5.cell? ⟨w.heap.size+1+1,0,none⟩=some (.string aqB):=(aB (w:=w3) (a:=⟨w.heap.size+1+1,0,none⟩) (hB5.block (w.heap.size+1+1) (aC b2))).trans b2;have e25:w5.cell? ⟨1,0,none⟩=some vO:=HI5.out.errs.gone;clear hB5 HI HT1 e0 b0 b1 b2 HR4
  by_cases hps:decide (iQ l frm≠-1)=true
  ·rw[hps]
   have HX:Hid (rP l frm aqB vN vO=none):=by show _=_;rw[rP,aD ⟨hnm,hnt⟩,ax (by simpa using hps)]
   have HL:=aP (aK HH.out.map.lt HH.out.own.lt)
   go_wp2_with fail
   refine(xk ⟨252,#[.pointer (some ⟨w.heap.size,0,none⟩),.pointer (some ⟨w.heap.size+1,0,none⟩),.pointer (some ⟨w.heap.size+1+1,0,none⟩)],⟨#[]⟩,false⟩ ⟨3,frm,aqB⟩ (fun h=>by simp at h) S vD l d fb 1 nb sb n sv w5 HI5.out.row HI5.out.map hhi HI5.out.own hSl hne ⟨_,_,b05,b15,aL (aL (aG ⟨rfl,_,b25,rfl⟩))⟩ ?_ hroom hn hn2 (aN _) hdt HI5.out.errs.down hgd).mono ?_
   ·intro b hb
    simp[lM] at hb
    have hlt:=HL.out;refine⟨by omega,by omega,fun e=>?_⟩;have:=hlt.2 b e;omega
   rintro e w6 hp;have HP:=aP hp;obtain⟨v,rfl⟩:=HP.out.ret;obtain⟨sv2,hr2⟩:=HP.out.row;have HR2:=aP hr2;clear hp hr2
   go_wp2
   refine eY (f:=59) (args:=#[.pointer (some ⟨fb,0,none⟩)]) (by simp) (by simp[go_sem]) ?_;refine(unlock_deferred kg ⟨fb,0,none⟩ .returning _ ?_ ?_).mono ?_;(rw[bZ HR2.out];rfl);(exact iG HR2.out);rintro e u' w'' ⟨rfl,rfl,rfl⟩;refine⟨_,jO rfl _ _ _,?_⟩;exact Jo HX.out hfb HT5.out (fun b hb=>by simp[lM] at hb;omega) HP.out hne
  have hps2:decide (iQ l frm≠-1)=false:=by simpa using hps
  rw[hps2]
  have HX:Hid (rP l frm aqB vN vO=some vO):=by show _=_;rw[rP,aD ⟨hnm,hnt⟩,aD (by simpa using hps)]
  go_wp2
  have HR2:=aP HI5.out.row;refine eY (f:=59) (args:=#[.pointer (some ⟨fb,0,none⟩)]) (by simp) (by simp[go_sem]) ?_;refine(unlock_deferred kg ⟨fb,0,none⟩ .returning _ ?_ ?_).mono ?_;(rw[bZ HR2.out];rfl);(exact iG HR2.out);rintro e u' w'' ⟨rfl,rfl,rfl⟩;refine⟨_,jO rfl _ _ _,?_⟩;have hI9:=HI5.out.lock 0 hlow hne;exact⟨(HT5.out.setCell ⟨fb,0,none⟩ _ (aG rfl)).mono (fun _ hk=>aG hk),aG ⟨vO,HX.out,rfl,hI9.row,hI9.map,hI9.own⟩⟩
 have hnm2:eD frm=false:=by simpa using hnm
 rw[hnm2]
 have HX:Hid (rP l frm aqB vN vO=some vN):=by show _=_;rw[rP,ax (fun h=>hnm h.1)]
 go_wp2
 have HR2:=aP HI.out.row;refine eY (f:=59) (args:=#[.pointer (some ⟨fb,0,none⟩)]) (by simp) (by simp[go_sem]) ?_;refine(unlock_deferred kg ⟨fb,0,none⟩ .returning _ ?_ ?_).mono ?_;(rw[bZ HR2.out];rfl);(exact iG HR2.out);rintro e u' w'' ⟨rfl,rfl,rfl⟩;refine⟨_,jO rfl _ _ _,?_⟩;have hI9:=HI.out.lock 0 hlow hne;exact⟨(HT1.out.setCell ⟨fb,0,none⟩ _ (aG rfl)).mono (fun _ hk=>aG hk),aG ⟨vN,HX.out,rfl,hI9.row,hI9.map,hI9.own⟩⟩
def vS(l:List bL)(room:Int)(name data:ah)(vN vR:Value):Option Value:=
 if eD name=true then (if room<(totalBytes l:Int)+data.size then some vR else none) else some vN
theorem Ll(name data:ah)(hn:name.size<=maxLen)(hdat:data.size<=140737488351232)(l:List bL)(hd:qE l)(htot:totalBytes l<=1099511627776)(hdt:(fO l name).size<=1099511627776)(S:List jv)(vN vO vR vD:Value)(d:dQ)(fb:Nat)(nb sb n:Nat)(sv:Value)(w:aj)
  (h:zG l S vN vO vR vD d fb nb sb n sv 0 w) (hroom:n<maxLen) (hhi:d.fuse<=9223372036854775807) (hrm:d.room<=65536) (hSl:S.length<=1099511627776) (hlow:14<=fb) (hne:sv.ownBlock≠some fb/\sv.ownBlock≠some nb/\fb≠nb):
  Calls Tryz.prog 229 #[.pointer (some ⟨fb,0,none⟩),.string name,.string data] w (FV (vS l d.room name data vN vR) vD l ⟨2,name,data⟩ S d fb nb sb n sv w):=by
 have hgd:3≠fb:=by omega
 obtain⟨w2,hw2⟩:∃w2,w2=((w.alloc (.cells #[.pointer (some ⟨fb,0,none⟩)] 31)).alloc (.cells #[.string name] 9)):=⟨_,rfl⟩
 have hB:Below w.heap.size w w2:=by rw[hw2];exact((au _ _).alloc (ai _) _).alloc (by simp) _
 have hI:zG l S vN vO vR vD d fb nb sb n sv 0 w2:=h.below hB
 have hb0:w2.cell? ⟨w.heap.size,0,none⟩=some (.pointer (some ⟨fb,0,none⟩)):=by
  rw[hw2,bO _ _ ⟨w.heap.size,0,none⟩ (by simp)];exact jq w _ _ 0 _ rfl
 have hb1:w2.cell? ⟨w.heap.size+1,0,none⟩=some (.string name):=by
  rw[hw2];simp
 have h0:w2.cell? ⟨fb,0,none⟩=some (.int .i32 0):=by rw[bZ hI.row];rfl
 have f0:w2.frozen? ⟨fb,0,none⟩=false:=iG hI.row;have hfb:fb<w.heap.size:=h.row.lt;have HT:Hid (aQ (fun k=>k=fb) w w2):=aQ.of_below _ hB;have HI:=aP (hI.lock 1 hlow hne);have HT1:Hid (aQ (fun k=>k=fb) w (w2.setCell ⟨fb,0,none⟩ (.int .i32 1))):=HT.out.setCell ⟨fb,0,none⟩ _ (aG rfl)
 have b0:(w2.setCell ⟨fb,0,none⟩ (.int .i32 1)).cell? ⟨w.heap.size,0,none⟩=some (.pointer (some ⟨fb,0,none⟩)):=by
  rw[aB (w:=w2) (a:=⟨w.heap.size,0,none⟩) (iP (show w.heap.size≠fb by omega))];exact hb0
 have b1:(w2.setCell ⟨fb,0,none⟩ (.int .i32 1)).cell? ⟨w.heap.size+1,0,none⟩=some (.string name):=by
  rw[aB (w:=w2) (a:=⟨w.heap.size+1,0,none⟩) (iP (show w.heap.size+1≠fb by omega))];exact hb1
 have HH:=aP h;clear h hB hI HT hb0 hb1
 go_enter_defers Tryz.func229,Tryz.ntmps229
 go_wp2_with fail
 rw[<-hw2];refine(lock_free kg ⟨fb,0,none⟩ _ h0 f0).mono ?_;rintro e w1 ⟨rfl,rfl⟩;refine dI ?_;clear h0 f0 hw2;generalize w2.setCell ⟨fb,0,none⟩ (.int .i32 1)=w3 at*;unfold Hid;have e0:w3.cell? ⟨0,0,none⟩=some vN:=HI.out.errs.name;have e2:w3.cell? ⟨2,0,none⟩=some vR:=HI.out.errs.room
 go_wp2_with fail
 refine(sG name w3).mono ?_;rintro e w4 ⟨rfl,rfl⟩
 by_cases hnm:eD name=true
 ·rw[hnm]
  have c2:w4.cell? ⟨fb,2,none⟩=some (.int .i64 d.room):=by rw[bZ HI.out.row];rfl
  have HW:Hid (vS l d.room name data vN vR=if d.room<(totalBytes l:Int)+data.size then some vR else none):=by show _=_;rw[vS,aD hnm]
  have HBY:Hid (Calls Tryz.prog 74 #[.pointer (some ⟨fb,0,none⟩)] w4.drew fun e w'=>e=.returned (.int .i64 (totalBytes l))/\Below w4.drew.heap.size w4.drew w'):=NP l hd (by omega) d fb 1 nb sb n sv w4.drew HI.out.row (HI.out.map.keep rfl)
  have HBT:Hid (∀w5,Below w4.drew.heap.size w4.drew w5->aQ (fun _=>False) w4 w5/\((w5.cell? ⟨w.heap.size,0,none⟩=some (.pointer (some ⟨fb,0,none⟩))/\w5.cell? ⟨w.heap.size+1,0,none⟩=some (.string name)/\w5.cell? ⟨fb,2,none⟩=some (.int .i64 d.room)))):=fun w5 hb=>by
   have hk:∀k v,w4.cell? k=some v->w5.cell? k=some v:=fun k v hk=>(aB (w:=w4) (hb.block k.block (aC hk))).trans hk
   exact⟨⟨hb.os,hb.output,hb.size,fun k hk _=>hb.block k hk⟩,hk _ _ b0,hk _ _ b1,hk _ _ c2⟩
  have HT4:Hid (aQ (fun _=>False) w4 w4.drew):=⟨rfl,rfl,ai _,fun _ _ _=>rfl⟩
  have hT0:(0:Int)<=(totalBytes l:Int):=by omega
  have hT1:(totalBytes l:Int)<=1099511627776:=by omega
  have hE0:(data.size:Int)<=140737488351232:=by omega
  clear htot;generalize (totalBytes l:Int)=tot at*
  have k1:IntKind.i64.wrap (tot+(data.size:Int))=tot+(data.size:Int):=by rw[gH];omega
  go_wp2_with fail
  go_region_held3 (fun w'=>aQ (fun _=>False) w4 w'/\(w'.cell? ⟨w.heap.size,0,none⟩=some (.pointer (some ⟨fb,0,none⟩))/\w'.cell? ⟨w.heap.size+1,0,none⟩=some (.string name)/\w'.cell? ⟨fb,2,none⟩=some (.int .i64 d.room))) (first|exact⟨HT4.out,b0,b1,c2⟩|exact hS5) (first|(go_at_call 74;refine HBY.out.mono ?_;rintro e w5 ⟨rfl,hB5⟩;have hS5:=HBT.out w5 hB5))
  all_goals
   have HI5:=aP (HI.out.still hS5.1);have HT5:Hid (aQ (fun k=>k=fb) w w5):=HT1.out.trans hS5.1 (fun i hi=>hi.elim);have b05:=hS5.2.1;have b15:=hS5.2.2.1;have e25:w5.cell? ⟨2,0,none⟩=some vR:=HI5.out.errs.room;clear hS5 hB5 HBY HBT HT4 HI HT1 e0 e2 b0 b1 c2
   by_cases hrm2:d.room<tot+(data.size:Int)
   ·have HX:Hid (vS l d.room name data vN vR=some vR):=by show _=_;rw[HW.out,aD hrm2]
    clear HW
    go_wp2
    have HR2:=aP HI5.out.row;refine eY (f:=59) (args:=#[.pointer (some ⟨fb,0,none⟩)]) (by simp) (by simp[go_sem]) ?_;refine(unlock_deferred kg ⟨fb,0,none⟩ .returning _ ?_ ?_).mono ?_;(rw[bZ HR2.out];rfl);(exact iG HR2.out);rintro e u' w'' ⟨rfl,rfl,rfl⟩;refine⟨_,jO rfl _ _ _,?_⟩;have hI9:=HI5.out.lock 0 hlow hne;exact⟨(HT5.out.setCell ⟨fb,0,none⟩ _ (aG rfl)).mono (fun _ hk=>aG hk),aG ⟨vR,HX.out,rfl,hI9.row,hI9.map,hI9.own⟩⟩
   have HX:Hid (vS l d.room name data vN vR=none):=by show _=_;rw[HW.out,ax hrm2]
   clear HW
   have hdat2:data.size<=1099511627776:=by omega
   have HL:=aP (aK HH.out.map.lt HH.out.own.lt)
   go_wp2_with fail
   refine(xk ⟨303,#[.pointer (some ⟨w.heap.size,0,none⟩),.pointer (some ⟨w.heap.size+1,0,none⟩)],data,true⟩ ⟨2,name,data⟩ (fun _=>rfl) S vD l d fb 1 nb sb n sv w5 HI5.out.row HI5.out.map hhi HI5.out.own hSl hne ⟨_,_,b05,b15,aL (aG ⟨rfl,rfl⟩)⟩ ?_ hroom hn hdat2 hdat2 hdt HI5.out.errs.down hgd).mono ?_
   ·intro b hb
    simp[lM] at hb
    have hlt:=HL.out;refine⟨by omega,by omega,fun e=>?_⟩;have:=hlt.2 b e;omega
   rintro e w6 hp;have HP:=aP hp;obtain⟨v,rfl⟩:=HP.out.ret;obtain⟨sv2,hr2⟩:=HP.out.row;have HR2:=aP hr2;clear hp hr2
   go_wp2
   refine eY (f:=59) (args:=#[.pointer (some ⟨fb,0,none⟩)]) (by simp) (by simp[go_sem]) ?_;refine(unlock_deferred kg ⟨fb,0,none⟩ .returning _ ?_ ?_).mono ?_;(rw[bZ HR2.out];rfl);(exact iG HR2.out);rintro e u' w'' ⟨rfl,rfl,rfl⟩;refine⟨_,jO rfl _ _ _,?_⟩;exact Jo HX.out hfb HT5.out (fun b hb=>by simp[lM] at hb;omega) HP.out hne
 have hnm2:eD name=false:=by simpa using hnm
 rw[hnm2]
 have HX:Hid (vS l d.room name data vN vR=some vN):=by show _=_;rw[vS,ax hnm]
 go_wp2
 have HR2:=aP HI.out.row;refine eY (f:=59) (args:=#[.pointer (some ⟨fb,0,none⟩)]) (by simp) (by simp[go_sem]) ?_;refine(unlock_deferred kg ⟨fb,0,none⟩ .returning _ ?_ ?_).mono ?_;(rw[bZ HR2.out];rfl);(exact iG HR2.out);rintro e u' w'' ⟨rfl,rfl,rfl⟩;refine⟨_,jO rfl _ _ _,?_⟩;have hI9:=HI.out.lock 0 hlow hne;exact⟨(HT1.out.setCell ⟨fb,0,none⟩ _ (aG rfl)).mono (fun _ hk=>aG hk),aG ⟨vN,HX.out,rfl,hI9.row,hI9.map,hI9.own⟩⟩
def vY(l:List bL)(name:ah)(vN vO:Value):Option Value:=
 if eD name=true then (if iQ l name=-1 then some vO else none) else some vN
theorem Lm(name:ah)(hn:name.size<=maxLen)(l:List bL)(hdt:(fO l name).size<=1099511627776)(S:List jv)(vN vO vR vD:Value)(d:dQ)(fb:Nat)(nb sb n:Nat)(sv:Value)(w:aj)
  (h:zG l S vN vO vR vD d fb nb sb n sv 0 w) (hroom:n<maxLen) (hhi:d.fuse<=9223372036854775807) (hSl:S.length<=1099511627776) (hlow:14<=fb) (hne:sv.ownBlock≠some fb/\sv.ownBlock≠some nb/\fb≠nb):
  Calls Tryz.prog 78 #[.pointer (some ⟨fb,0,none⟩),.string name] w (FV (vY l name vN vO) vD l ⟨4,name,⟨#[]⟩⟩ S d fb nb sb n sv w):=by
 have hgd:3≠fb:=by omega
 obtain⟨w2,hw2⟩:∃w2,w2=((w.alloc (.cells #[.pointer (some ⟨fb,0,none⟩)] 31)).alloc (.cells #[.string name] 9)):=⟨_,rfl⟩
 have hB:Below w.heap.size w w2:=by rw[hw2];exact((au _ _).alloc (ai _) _).alloc (by simp) _
 have hI:zG l S vN vO vR vD d fb nb sb n sv 0 w2:=h.below hB
 have hb0:w2.cell? ⟨w.heap.size,0,none⟩=some (.pointer (some ⟨fb,0,none⟩)):=by
  rw[hw2,bO _ _ ⟨w.heap.size,0,none⟩ (by simp)];exact jq w _ _ 0 _ rfl
 have hb1:w2.cell? ⟨w.heap.size+1,0,none⟩=some (.string name):=by
  rw[hw2];simp
 have h0:w2.cell? ⟨fb,0,none⟩=some (.int .i32 0):=by rw[bZ hI.row];rfl
 have f0:w2.frozen? ⟨fb,0,none⟩=false:=iG hI.row;have hfb:fb<w.heap.size:=h.row.lt;have HT:Hid (aQ (fun k=>k=fb) w w2):=aQ.of_below _ hB;have HI:=aP (hI.lock 1 hlow hne);have HT1:Hid (aQ (fun k=>k=fb) w (w2.setCell ⟨fb,0,none⟩ (.int .i32 1))):=HT.out.setCell ⟨fb,0,none⟩ _ (aG rfl)
 have b0:(w2.setCell ⟨fb,0,none⟩ (.int .i32 1)).cell? ⟨w.heap.size,0,none⟩=some (.pointer (some ⟨fb,0,none⟩)):=by
  rw[aB (w:=w2) (a:=⟨w.heap.size,0,none⟩) (iP (show w.heap.size≠fb by omega))];exact hb0
 have b1:(w2.setCell ⟨fb,0,none⟩ (.int .i32 1)).cell? ⟨w.heap.size+1,0,none⟩=some (.string name):=by
  rw[aB (w:=w2) (a:=⟨w.heap.size+1,0,none⟩) (iP (show w.heap.size+1≠fb by omega))];exact hb1
 have HH:=aP h;clear h hB hI HT hb0 hb1
 go_enter_defers Tryz.func78,Tryz.ntmps78
 go_wp2_with fail
 rw[<-hw2];refine(lock_free kg ⟨fb,0,none⟩ _ h0 f0).mono ?_;rintro e w1 ⟨rfl,rfl⟩;refine dI ?_;clear h0 f0 hw2;generalize w2.setCell ⟨fb,0,none⟩ (.int .i32 1)=w3 at*;unfold Hid;have e0:w3.cell? ⟨0,0,none⟩=some vN:=HI.out.errs.name
 go_wp2_with fail
 refine(sG name w3).mono ?_;rintro e w4 ⟨rfl,rfl⟩
 by_cases hnm:eD name=true
 ·rw[hnm];have HR4:=aP HI.out.row
  go_wp2_with fail
  refine(XT name hn l d fb 1 nb sb n sv w4 HI.out.row HI.out.map).mono ?_;rintro e w5 ⟨rfl,hB5⟩;have HI5:=aP (HI.out.below hB5);have HT5:Hid (aQ (fun k=>k=fb) w w5):=HT1.out.trans (aQ.of_below (fun k=>k=fb) hB5) (fun i hi=>aG hi);have b05:w5.cell? ⟨w.heap.size,0,none⟩=some (.pointer (some ⟨fb,0,none⟩)):=(aB (w:=w4) (a:=⟨w.heap.size,0,none⟩) (hB5.block w.heap.size (aC b0))).trans b0;have b15:w5.cell? ⟨w.heap.size+1,0,none⟩=some (.string name):=(aB (w:=w4) (a:=⟨w.heap.size+1,0,none⟩) (hB5.block (w.heap.size+1) (aC b1))).trans b1;have e25:w5.cell? ⟨1,0,none⟩=some vO:=HI5.out.errs.gone;clear hB5 HI HT1 e0 b0 b1 HR4
  by_cases hps:decide (iQ l name≠-1)=true
  ·rw[hps]
   have HX:Hid (vY l name vN vO=none):=by show _=_;rw[vY,aD hnm,ax (by simpa using hps)]
   have HL:=aP (aK HH.out.map.lt HH.out.own.lt)
   go_wp2_with fail
   refine(xk ⟨126,#[.pointer (some ⟨w.heap.size,0,none⟩),.pointer (some ⟨w.heap.size+1,0,none⟩)],⟨#[]⟩,false⟩ ⟨4,name,⟨#[]⟩⟩ (fun _=>rfl) S vD l d fb 1 nb sb n sv w5 HI5.out.row HI5.out.map hhi HI5.out.own hSl hne ⟨_,_,b05,b15,aL (aL (aL ⟨rfl,rfl⟩))⟩ ?_ hroom hn (aN _) (aN _) hdt HI5.out.errs.down hgd).mono ?_
   ·intro b hb
    simp[lM] at hb
    have hlt:=HL.out;refine⟨by omega,by omega,fun e=>?_⟩;have:=hlt.2 b e;omega
   rintro e w6 hp;have HP:=aP hp;obtain⟨v,rfl⟩:=HP.out.ret;obtain⟨sv2,hr2⟩:=HP.out.row;have HR2:=aP hr2;clear hp hr2
   go_wp2
   refine eY (f:=59) (args:=#[.pointer (some ⟨fb,0,none⟩)]) (by simp) (by simp[go_sem]) ?_;refine(unlock_deferred kg ⟨fb,0,none⟩ .returning _ ?_ ?_).mono ?_;(rw[bZ HR2.out];rfl);(exact iG HR2.out);rintro e u' w'' ⟨rfl,rfl,rfl⟩;refine⟨_,jO rfl _ _ _,?_⟩;exact Jo HX.out hfb HT5.out (fun b hb=>by simp[lM] at hb;omega) HP.out hne
  have hps2:decide (iQ l name≠-1)=false:=by simpa using hps
  rw[hps2]
  have HX:Hid (vY l name vN vO=some vO):=by show _=_;rw[vY,aD hnm,aD (by simpa using hps)]
  go_wp2
  have HR2:=aP HI5.out.row;refine eY (f:=59) (args:=#[.pointer (some ⟨fb,0,none⟩)]) (by simp) (by simp[go_sem]) ?_;refine(unlock_deferred kg ⟨fb,0,none⟩ .returning _ ?_ ?_).mono ?_;(rw[bZ HR2.out];rfl);(exact iG HR2.out);rintro e u' w'' ⟨rfl,rfl,rfl⟩;refine⟨_,jO rfl _ _ _,?_⟩;have hI9:=HI5.out.lock 0 hlow hne;exact⟨(HT5.out.setCell ⟨fb,0,none⟩ _ (aG rfl)).mono (fun _ hk=>aG hk),aG ⟨vO,HX.out,rfl,hI9.row,hI9.map,hI9.own⟩⟩
 have hnm2:eD name=false:=by simpa using hnm
 rw[hnm2]
 have HX:Hid (vY l name vN vO=some vN):=by show _=_;rw[vY,ax hnm]
 go_wp2
 have HR2:=aP HI.out.row;refine eY (f:=59) (args:=#[.pointer (some ⟨fb,0,none⟩)]) (by simp) (by simp[go_sem]) ?_;refine(unlock_deferred kg ⟨fb,0,none⟩ .returning _ ?_ ?_).mono ?_;(rw[bZ HR2.out];rfl);(exact iG HR2.out);rintro e u' w'' ⟨rfl,rfl,rfl⟩;refine⟨_,jO rfl _ _ _,?_⟩;have hI9:=HI.out.lock 0 hlow hne;exact⟨(HT1.out.setCell ⟨fb,0,none⟩ _ (aG rfl)).mono (fun _ hk=>aG hk),aG ⟨vN,HX.out,rfl,hI9.row,hI9.map,hI9.own⟩⟩
