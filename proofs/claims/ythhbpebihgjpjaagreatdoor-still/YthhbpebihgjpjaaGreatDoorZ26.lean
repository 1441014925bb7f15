import Derived.Test.YthhbpebihgjpjaaGreatDoorZ23
import Derived.Test.YthhbpebihgjpjaaGreatDoorShelf
import Derived.Sort.KeysCollected
import Derived.Sort.OwnSorted
namespace Go.Proofs.YthhbpebihgjpjaaGreatDoor
set_option maxRecDepth 1000000
set_option maxHeartbeats 20000000
set_option linter.all false
section
open Go.RowKit Go.MuLone Go.Maps Go.Sort
theorem ab9(blk off cap:Nat)(ss:List (List UInt8))(w:ak)(hH:Holds encStr w blk off ss.toArray)(hblk:blk<w.heap.size)(hsz:ss.length<4611686018427387904):
  Calls Tryz.prog 65 #[.slice (some ⟨blk,off,none⟩) ss.length cap] w fun e w'=>
   e=.returned (.tuple #[])/\∃n os,w'=grow (putRow encStr (Sort.ahead w n) blk off (ss.mergeSort fun x y=>decide (x<=y)).toArray) os:=
 Any.slices_Sort_string Tryz.lays190 blk off cap ss w hH hblk hsz
def rR(l:List bP):List (List UInt8):=l.map fun x=>x.1.data.toList
variable {l:List bP}
theorem KT(h:qg l):(rR l).Nodup:=by
 refine List.pairwise_map.2 (h.imp (fun {a b} hab e=>?_));exact Fg hab (NT e)
theorem IY(h:qg l):(rR l).mergeSort leB=rR l:=by
 refine List.mergeSort_of_pairwise ?_;refine List.pairwise_map.2 (h.imp (fun {a b} hab=>?_));simp only[leB,lg];exact List.le_of_lt ((Gu a.1 b.1).1 hab)
variable {D:DataW Unit}
theorem QC(h:pQ D l)(x:List UInt8):x∈rR l↔has D (.string x)=true:=by
 have e:Lit.string x=jJ ⟨x.toArray⟩:=by simp[jJ]
 rw[e,h.has]
 constructor
 ·intro hx;obtain⟨y,hy,rfl⟩:=fP.1 hx;have:=Kh l y hy
  simpa using this
 intro hx;obtain⟨c,hc⟩:=fQ.1 hx;obtain⟨y,hy,he⟩:=Zc l _ c hc;exact fP.2 ⟨y,hy,by rw[he]⟩
theorem IV{left:Lit->Bool}{ss:List (List UInt8)}(h:pQ D l)(hs:qg l)(hC:Collected D left ss)(hl:∀kl,left kl=false):ss.mergeSort leB=rR l/\ss.length=l.length:=by
 have hp:ss.Perm (rR l):=(List.perm_ext_iff_of_nodup hC.1 (KT hs)).2 fun x=>by rw[QC h,hC.2 x];simp[hl]
 exact⟨by rw[mergeSort_of_perm hp,IY hs],by rw[hp.length_eq];simp[rR]⟩
def NH(l:List bP)(d:dX)(fb nb sb:Nat)(sv:Value)(w:ak)(e:Ending)(w':ak):Prop:=
 ∃g,w.heap.size<=g/\e=.returned (.slice (some ⟨g,0,none⟩) l.length l.length)/\w'.ownsRow w.heap.size 9 1 (.slice (some ⟨g,0,none⟩) l.length l.length) l.length ((rR l).map encStr)/\bH w' fb d 0 nb sb sv/\aW (fun k=>k=fb) w w'
theorem Nn(l:List bP)(hs:qg l)(d:dX)(fb:Nat)(nb sb n:Nat)(sv:Value)(w:ak)(h:bH w fb d 0 nb sb sv)(hm:dF w nb n l)(hn:n<=1099511627776)(hnb:nb≠fb):
  Calls Tryz.prog 44 #[.pointer (some ⟨fb,0,none⟩)] w (NH l d fb nb sb sv w):=by
 have hinf:(Tryz.prog.info? 9).map (fun i=>(i.zero,i.size,i.bytes))=some (some (.string ⟨#[]⟩),1,16):=dD
 obtain⟨i0,hi,hz0,hz1,hz2⟩:=info_parts hinf;have HR1:=aV (h.setLock 1);have HT1:Hid (aW (fun k=>k=fb) w (w.setCell ⟨fb,0,none⟩ (.int .i32 1))):=(aW.refl _ w).setCell ⟨fb,0,none⟩ _ (aK rfl);obtain⟨D,hown,hh⟩:=(show dF (w.setCell ⟨fb,0,none⟩ (.int .i32 1)) nb n l from hm.keep (au _ _ _ _ hnb));have HH:=aV hh;have HSO:=aV hs
 have h0:w.cell? ⟨fb,0,none⟩=some (.int .i32 0):=by rw[aj _ _ _ _ _ _ h];rfl
 have f0:w.frozen? ⟨fb,0,none⟩=false:=aD _ _ _ _ _ h
 have hsz1:w.heap.size=(w.setCell ⟨fb,0,none⟩ (.int .i32 1)).heap.size:=by simp[World.setCell]
 have HSZ:=aV hsz1;clear h hm hh hs hinf hsz1
 go_enter_defers Tryz.func44,Tryz.ntmps44
 go_wp2_with (go_at_call 58;refine(lock_free ku ⟨fb,0,none⟩ _ h0 f0).mono ?_;rintro e w1 ⟨rfl,rfl⟩;refine dO ?_)
 clear h0 f0;generalize w.setCell ⟨fb,0,none⟩ (.int .i32 1)=w2 at*
 have c3:w2.cell? ⟨fb,3,none⟩=some (.map (some nb)):=by rw[aj _ _ _ _ _ _ HR1.out];rfl
 have hbl:=hown.lt;have hfb2:fb<w2.heap.size:=HR1.out.lt;have HSZ2:=aV hown.size_le;unfold Hid
 go_wp2_with (first
  | (at_len;refine wpList_len_own _ rfl _ 85 rfl 9 117 Tryz.underlying85 _ nb n _ rfl hown ?_)
  | (at_make;refine wpList_make_own _ rfl _ _ 32 rfl w2.heap.size 9 i0 (.string ⟨#[]⟩) 1 Tryz.underlying32 hi hz0 hz1 _ _ _ (Maps.size D) rfl rfl rfl (by have:=HSZ2.out;rw[hz2];omega) (by have:=HSZ2.out;unfold maxLen;omega) (ai _) ?_;intro w3 hrow3 hg3;have c33:w3.cell? ⟨fb,3,none⟩=some (.map (some nb)):=(aF (w:=w2) (a:=⟨fb,3,none⟩) (hg3.block fb hfb2 eB)).trans c3)
  | (at_range;refine wpList_range_own _ rfl _ 85 rfl 9 117 Ty Tryz.underlying85 _ nb n _ rfl (hown.kept hg3 eB) ?_;intro w0 hrg0 hg0 hs0)
  |fail)
 go_frame
 clear c3 c33
 go_loopw [3] (fun v wr=>∃(left:Lit->Bool) (cnt:Nat) (ss:List (List UInt8)),wr.ranges Tryz.prog 9 rP nb w3.heap.size n D left cnt/\ss.length+cnt<=Maps.size D/\v=.slice (some ⟨w2.heap.size,0,none⟩) ss.length (Maps.size D)/\
   wr.ownsRow w2.heap.size 9 1 (.slice (some ⟨w2.heap.size,0,none⟩) ss.length (Maps.size D)) ss.length (ss.map encStr)/\Collected D left ss/\Below w2.heap.size w2 wr)
  (fun _ wr=>wr.rangeLeft nb w3.heap.size)
 case atStart=>
  exact⟨_,_,[],hrg0,eB,rfl,hrow3.kept hg0 (aP sOB),Collected.start D,
   ((ay _ _).grown hg3 (ai _) (fun j hj=>by cases hj)).grown hg0 hg3.size (fun j hj=>by cases hj)⟩
 case round=>
  obtain⟨left,cnt,ss,hrg,hcs,rfl,hrow,hC,hnx⟩:=hrel
  go_wp2_with (first
   | (at_next;refine yT _ rfl _ rfl nb w3.heap.size n _ _ _ rfl hrg ?_ ?_)
   |fail)
  ·intro hc0 hl0;have HCN:=aV (IV HH.out HSO.out hC hl0)
   have HPL:Hid (Maps.size D=ss.length):=by
    show _=_;have hp:=(hC.perm hown Ty Tryz.underlying9 hl0).length_eq;obtain⟨es,he,_⟩:=hown.keysOf;rw[he] at hp⊢
    simpa[strKeys,Maps.size] using hp.symm
   obtain⟨_,⟨hnil,_⟩|⟨g,cap,cur,hv,hbase,hb,q1,q2,q3,q4⟩⟩:=hrow
   ·cases hnil
   injection hv with v1 v2 v3;injection v1 with v1;injection v1 with v4 v5 v6;subst v4 v3;have hH:Holds encStr wr w2.heap.size 0 ss.toArray:=holds_of_block hb (by simpa using q4);have hgl:w2.heap.size<wr.heap.size:=(gQ.1 hb).1;have HC:Hid (Calls Tryz.prog 65 #[.slice (some ⟨w2.heap.size,0,none⟩) ss.length (Maps.size D)] wr fun e w'=>e=.returned (.tuple #[])/\∃n os,w'=grow (putRow encStr (Sort.ahead wr n) w2.heap.size 0 (ss.mergeSort fun x y=>decide (x<=y)).toArray) os):=ab9 w2.heap.size 0 _ ss wr hH hgl (by have:=HSZ2.out;omega)
   have HFIN:Hid (∀nn os,NH l d fb nb sb sv w (.returned (.slice (some ⟨w2.heap.size,0,none⟩) ss.length (Maps.size D))) ((grow (putRow encStr (Sort.ahead wr nn) w2.heap.size 0 (ss.mergeSort fun x y=>decide (x<=y)).toArray) os).setCell ⟨fb,0,none⟩ (.int .i32 0))/\bH (grow (putRow encStr (Sort.ahead wr nn) w2.heap.size 0 (ss.mergeSort fun x y=>decide (x<=y)).toArray) os) fb d 1 nb sb sv):=fun nn os=>by
    have hgr:=grownBy_sorted (w:=wr) (g:=w2.heap.size) (n:=nn) (os:=os) (ss.mergeSort leB).toArray;have hbel:=hnx.grown hgr hnx.size (fun j hj=>by cases hj;exact ai _);have hr:bH (grow (putRow encStr (Sort.ahead wr nn) w2.heap.size 0 (ss.mergeSort leB).toArray) os) fb d 1 nb sb sv:=(hbel.block fb hfb2).trans HR1.out;have hrs:=ownsRow_sorted (w:=wr) (base:=w2.heap.size) (n:=nn) (os:=os) (ts:=ss.mergeSort leB) (ss:=ss) eB (ai _) hb q1 q2 q3;have ht:aW (fun k=>k=fb) w (grow (putRow encStr (Sort.ahead wr nn) w2.heap.size 0 (ss.mergeSort leB).toArray) os):=HT1.out.trans (aW.of_below (fun k=>k=fb) hbel) (fun i hi=>aK hi);refine⟨⟨w2.heap.size,by rw[HSZ.out];exact ai _,by rw[HPL.out,HCN.out.2],?_,hr.setLock 0,ht.setCell ⟨fb,0,none⟩ _ (aK rfl)⟩,hr⟩;have h9:=hrs.kept (grownBy.setCell' (World.grownBy.refl _ (some fb)) ⟨fb,0,none⟩ (.int .i32 0) (aK rfl)) (aP (by simp[Value.ownBlock];omega));rw[HSZ.out];rw[HPL.out,HCN.out.1,HCN.out.2] at h9;rw[HCN.out.1];exact h9
   clear hb hH q1 q2 q3 q4 hgl hC hl0
   go_wp2_with fail
   refine HC.out.mono ?_;rintro e w9 ⟨rfl,nn,os,rfl⟩;have HF:=HFIN.out nn os;clear HFIN HC;generalize grow (putRow encStr (Sort.ahead wr nn) w2.heap.size 0 (ss.mergeSort fun x y=>decide (x<=y)).toArray) os=w9 at*;have HR2:=aV HF.2;have HF1:=aV HF.1;clear HF
   go_wp2
   refine fA (f:=59) (args:=#[.pointer (some ⟨fb,0,none⟩)]) eB FE ?_;refine(unlock_deferred ku ⟨fb,0,none⟩ .returning _ ?_ ?_).mono ?_;(rw[aj _ _ _ _ _ _ HR2.out];rfl);(exact aD _ _ _ _ _ HR2.out);rintro e u' w'' ⟨rfl,rfl,rfl⟩;refine⟨_,jS rfl _ _ _,?_⟩;exact HF1.out
  intro x c w4 cnt4 hlk hat hrg4 hlt hg4 hs4 hen;have hrow4:=hrow.kept hg4 (aP (row_ne_iter hrow hrg).symm);have hC4:=hC.step (x:=x.data.toList) hlk hat;clear hs4
  go_wp2_with (first
   | (at_builtin;refine wpList_append_fits _ rfl _ _ 32 rfl w2.heap.size 9 i0 1 Tryz.underlying32 hi hz1 w2.heap.size ss.length (Maps.size D) (ss.map encStr) rfl (hrow4.alloc _) ⟨w4.heap.size,0,none⟩ 1 1 [.string x] rfl rfl (cell_one_new _ _ _) (by simp[Value.oneCell']) aJ ?_;intro w5 hown5 hg5;go_frame)
   |fail)
  have hrg5:=(hrg4.alloc (.cells #[.string x] 9)).kept hg5 (by simp;omega) (by have:=(row_ne_iter hrow4 hrg4);simpa[Value.ownBlock] using this)
  have he:encStr x.data.toList=.string x:=by simp[encStr]
  refine⟨⟨_,cnt4,ss++[x.data.toList],hrg5,by simp;omega,eB,by simpa[he] using hown5,hC4,?_⟩,?_⟩
  ·exact((hnx.grown hg4 hnx.size (fun j hj=>by cases hj;exact hg3.size)).alloc (by have:=hnx.size;have:=hg4.size;omega) _).grown hg5 (by have:=hnx.size;have:=hg4.size;simp;omega) (fun j hj=>by cases hj;exact ai _)
  rw[hrg5.left_eq,hrg.left_eq];exact hlt
end
end Go.Proofs.YthhbpebihgjpjaaGreatDoor
