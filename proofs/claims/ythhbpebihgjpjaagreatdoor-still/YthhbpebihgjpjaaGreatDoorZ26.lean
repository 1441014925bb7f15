import Derived.Test.YthhbpebihgjpjaaGreatDoorZ23
import Derived.Test.YthhbpebihgjpjaaGreatDoorShelf
import Derived.Sort.KeysCollected
import Derived.Sort.OwnSorted
namespace Go.Proofs.YthhbpebihgjpjaaGreatDoor
set_option maxRecDepth 1000000
set_option maxHeartbeats 20000000
set_option linter.all false
section
open Go.RowKit Go.MuLone Go.Maps Go.Sort
theorem ab8(blk off cap:Nat)(ss:List (List UInt8))(w:aj)(hH:Holds encStr w blk off ss.toArray)(hblk:blk<w.heap.size)(hsz:ss.length<4611686018427387904):
  Calls Tryz.prog 65 #[.slice (some ⟨blk,off,none⟩) ss.length cap] w fun e w'=>
   e=.returned (.tuple #[])/\∃n os,w'=grow (putRow encStr (Sort.ahead w n) blk off (ss.mergeSort fun x y=>decide (x<=y)).toArray) os:=
 Any.slices_Sort_string Tryz.lays190 blk off cap ss w hH hblk hsz
def rO(l:List bL):List (List UInt8):=l.map fun x=>x.1.data.toList
variable {l:List bL}
theorem KT(h:qb l):(rO l).Nodup:=by
 refine List.pairwise_map.2 (h.imp (fun {a b} hab e=>?_));exact Ff hab (NQ e)
theorem IX(h:qb l):(rO l).mergeSort leB=rO l:=by
 refine List.mergeSort_of_pairwise ?_;refine List.pairwise_map.2 (h.imp (fun {a b} hab=>?_));simp only[leB,kW];exact List.le_of_lt ((Gt a.1 b.1).1 hab)
variable {D:DataW Unit}
theorem Qz(h:pJ D l)(x:List UInt8):x∈rO l↔has D (.string x)=true:=by
 have e:Lit.string x=jF ⟨x.toArray⟩:=by simp[jF]
 rw[e,h.has]
 constructor
 ·intro hx;obtain⟨y,hy,rfl⟩:=fH.1 hx;have:=Kh l y hy
  simpa using this
 intro hx;obtain⟨c,hc⟩:=fI.1 hx;obtain⟨y,hy,he⟩:=Zb l _ c hc;exact fH.2 ⟨y,hy,by rw[he]⟩
theorem IU{left:Lit->Bool}{ss:List (List UInt8)}(h:pJ D l)(hs:qb l)(hC:Collected D left ss)(hl:∀kl,left kl=false):ss.mergeSort leB=rO l/\ss.length=l.length:=by
 have hp:ss.Perm (rO l):=(List.perm_ext_iff_of_nodup hC.1 (KT hs)).2 fun x=>by rw[Qz h,hC.2 x];simp[hl]
 exact⟨by rw[mergeSort_of_perm hp,IX hs],by rw[hp.length_eq];simp[rO]⟩
def ND(l:List bL)(d:dQ)(fb nb sb:Nat)(sv:Value)(w:aj)(e:Ending)(w':aj):Prop:=
 ∃g,w.heap.size<=g/\e=.returned (.slice (some ⟨g,0,none⟩) l.length l.length)/\w'.ownsRow w.heap.size 9 1 (.slice (some ⟨g,0,none⟩) l.length l.length) l.length ((rO l).map encStr)/\bC w' fb d 0 nb sb sv/\aQ (fun k=>k=fb) w w'
theorem Nk(l:List bL)(hs:qb l)(d:dQ)(fb:Nat)(nb sb n:Nat)(sv:Value)(w:aj)(h:bC w fb d 0 nb sb sv)(hm:dw w nb n l)(hn:n<=1099511627776)(hnb:nb≠fb):
  Calls Tryz.prog 44 #[.pointer (some ⟨fb,0,none⟩)] w (ND l d fb nb sb sv w):=by
 have hinf:(Tryz.prog.info? 9).map (fun i=>(i.zero,i.size,i.bytes))=some (some (.string ⟨#[]⟩),1,16):=by kernel_rfl
 obtain⟨i0,hi,hz0,hz1,hz2⟩:=info_parts hinf;have HR1:=aP (h.setLock 1);have HT1:Hid (aQ (fun k=>k=fb) w (w.setCell ⟨fb,0,none⟩ (.int .i32 1))):=(aQ.refl _ w).setCell ⟨fb,0,none⟩ _ (aG rfl);obtain⟨D,hown,hh⟩:=(show dw (w.setCell ⟨fb,0,none⟩ (.int .i32 1)) nb n l from hm.keep (iP hnb));have HH:=aP hh;have HSO:=aP hs
 have h0:w.cell? ⟨fb,0,none⟩=some (.int .i32 0):=by rw[bZ h];rfl
 have f0:w.frozen? ⟨fb,0,none⟩=false:=iG h
 have hsz1:w.heap.size=(w.setCell ⟨fb,0,none⟩ (.int .i32 1)).heap.size:=by simp[World.setCell]
 have HSZ:=aP hsz1;clear h hm hh hs hinf hsz1
 go_enter_defers Tryz.func44,Tryz.ntmps44
 go_wp2_with (go_at_call 58;refine(lock_free kg ⟨fb,0,none⟩ _ h0 f0).mono ?_;rintro e w1 ⟨rfl,rfl⟩;refine dI ?_)
 clear h0 f0;generalize w.setCell ⟨fb,0,none⟩ (.int .i32 1)=w2 at*
 have c3:w2.cell? ⟨fb,3,none⟩=some (.map (some nb)):=by rw[bZ HR1.out];rfl
 have hbl:=hown.lt;have hfb2:fb<w2.heap.size:=HR1.out.lt;have HSZ2:=aP hown.size_le;unfold Hid
 go_wp2_with (first
  | (at_len;refine wpList_len_own _ rfl _ 85 rfl 9 117 Tryz.underlying85 _ nb n _ rfl hown ?_)
  | (at_make;refine wpList_make_own _ rfl _ _ 32 rfl w2.heap.size 9 i0 (.string ⟨#[]⟩) 1 Tryz.underlying32 hi hz0 hz1 _ _ _ (Maps.size D) rfl rfl rfl (by have:=HSZ2.out;rw[hz2];omega) (by have:=HSZ2.out;unfold maxLen;omega) (ai _) ?_;intro w3 hrow3 hg3;have c33:w3.cell? ⟨fb,3,none⟩=some (.map (some nb)):=(aB (w:=w2) (a:=⟨fb,3,none⟩) (hg3.block fb hfb2 (by simp))).trans c3)
  | (at_range;refine wpList_range_own _ rfl _ 85 rfl 9 117 Tv Tryz.underlying85 _ nb n _ rfl (hown.kept hg3 (by simp)) ?_;intro w0 hrg0 hg0 hs0)
  |fail)
 go_frame
 clear c3 c33
 go_loopw [3] (fun v wr=>∃(left:Lit->Bool) (cnt:Nat) (ss:List (List UInt8)),wr.ranges Tryz.prog 9 rJ nb w3.heap.size n D left cnt/\ss.length+cnt<=Maps.size D/\v=.slice (some ⟨w2.heap.size,0,none⟩) ss.length (Maps.size D)/\
   wr.ownsRow w2.heap.size 9 1 (.slice (some ⟨w2.heap.size,0,none⟩) ss.length (Maps.size D)) ss.length (ss.map encStr)/\Collected D left ss/\Below w2.heap.size w2 wr)
  (fun _ wr=>wr.rangeLeft nb w3.heap.size)
 case atStart=>
  exact⟨_,_,[],hrg0,by simp,rfl,hrow3.kept hg0 (aL (by simp[Value.ownBlock])),Collected.start D,
   ((au _ _).grown hg3 (ai _) (fun j hj=>by cases hj)).grown hg0 hg3.size (fun j hj=>by cases hj)⟩
 case round=>
  obtain⟨left,cnt,ss,hrg,hcs,rfl,hrow,hC,hnx⟩:=hrel
  go_wp2_with (first
   | (at_next;refine yR _ rfl _ rfl nb w3.heap.size n _ _ _ rfl hrg ?_ ?_)
   |fail)
  ·intro hc0 hl0;have HCN:=aP (IU HH.out HSO.out hC hl0)
   have HPL:Hid (Maps.size D=ss.length):=by
    show _=_;have hp:=(hC.perm hown Tv Tryz.underlying9 hl0).length_eq;obtain⟨es,he,_⟩:=hown.keysOf;rw[he] at hp⊢
    simpa[strKeys,Maps.size] using hp.symm
   obtain⟨_,⟨hnil,_⟩|⟨g,cap,cur,hv,hbase,hb,q1,q2,q3,q4⟩⟩:=hrow
   ·cases hnil
   injection hv with v1 v2 v3;injection v1 with v1;injection v1 with v4 v5 v6;subst v4 v3;have hH:Holds encStr wr w2.heap.size 0 ss.toArray:=holds_of_block hb (by simpa using q4);have hgl:w2.heap.size<wr.heap.size:=(gI.1 hb).1;have HC:Hid (Calls Tryz.prog 65 #[.slice (some ⟨w2.heap.size,0,none⟩) ss.length (Maps.size D)] wr fun e w'=>e=.returned (.tuple #[])/\∃n os,w'=grow (putRow encStr (Sort.ahead wr n) w2.heap.size 0 (ss.mergeSort fun x y=>decide (x<=y)).toArray) os):=ab8 w2.heap.size 0 _ ss wr hH hgl (by have:=HSZ2.out;omega)
   have HFIN:Hid (∀nn os,ND l d fb nb sb sv w (.returned (.slice (some ⟨w2.heap.size,0,none⟩) ss.length (Maps.size D))) ((grow (putRow encStr (Sort.ahead wr nn) w2.heap.size 0 (ss.mergeSort fun x y=>decide (x<=y)).toArray) os).setCell ⟨fb,0,none⟩ (.int .i32 0))/\bC (grow (putRow encStr (Sort.ahead wr nn) w2.heap.size 0 (ss.mergeSort fun x y=>decide (x<=y)).toArray) os) fb d 1 nb sb sv):=fun nn os=>by
    have hgr:=grownBy_sorted (w:=wr) (g:=w2.heap.size) (n:=nn) (os:=os) (ss.mergeSort leB).toArray;have hbel:=hnx.grown hgr hnx.size (fun j hj=>by cases hj;exact ai _);have hr:bC (grow (putRow encStr (Sort.ahead wr nn) w2.heap.size 0 (ss.mergeSort leB).toArray) os) fb d 1 nb sb sv:=(hbel.block fb hfb2).trans HR1.out;have hrs:=ownsRow_sorted (w:=wr) (base:=w2.heap.size) (n:=nn) (os:=os) (ts:=ss.mergeSort leB) (ss:=ss) (by simp) (ai _) hb q1 q2 q3;have ht:aQ (fun k=>k=fb) w (grow (putRow encStr (Sort.ahead wr nn) w2.heap.size 0 (ss.mergeSort leB).toArray) os):=HT1.out.trans (aQ.of_below (fun k=>k=fb) hbel) (fun i hi=>aG hi);refine⟨⟨w2.heap.size,by rw[HSZ.out];exact ai _,by rw[HPL.out,HCN.out.2],?_,hr.setLock 0,ht.setCell ⟨fb,0,none⟩ _ (aG rfl)⟩,hr⟩;have h9:=hrs.kept (grownBy.setCell' (World.grownBy.refl _ (some fb)) ⟨fb,0,none⟩ (.int .i32 0) (aG rfl)) (aL (by simp[Value.ownBlock];omega));rw[HSZ.out];rw[HPL.out,HCN.out.1,HCN.out.2] at h9;rw[HCN.out.1];exact h9
   clear hb hH q1 q2 q3 q4 hgl hC hl0
   go_wp2_with fail
   refine HC.out.mono ?_;rintro e w9 ⟨rfl,nn,os,rfl⟩;have HF:=HFIN.out nn os;clear HFIN HC;generalize grow (putRow encStr (Sort.ahead wr nn) w2.heap.size 0 (ss.mergeSort fun x y=>decide (x<=y)).toArray) os=w9 at*;have HR2:=aP HF.2;have HF1:=aP HF.1;clear HF
   go_wp2
   refine eY (f:=59) (args:=#[.pointer (some ⟨fb,0,none⟩)]) (by simp) (by simp[go_sem]) ?_;refine(unlock_deferred kg ⟨fb,0,none⟩ .returning _ ?_ ?_).mono ?_;(rw[bZ HR2.out];rfl);(exact iG HR2.out);rintro e u' w'' ⟨rfl,rfl,rfl⟩;refine⟨_,jO rfl _ _ _,?_⟩;exact HF1.out
  intro x c w4 cnt4 hlk hat hrg4 hlt hg4 hs4 hen;have hrow4:=hrow.kept hg4 (aL (row_ne_iter hrow hrg).symm);have hC4:=hC.step (x:=x.data.toList) hlk hat;clear hs4
  go_wp2_with (first
   | (at_builtin;refine wpList_append_fits _ rfl _ _ 32 rfl w2.heap.size 9 i0 1 Tryz.underlying32 hi hz1 w2.heap.size ss.length (Maps.size D) (ss.map encStr) rfl (hrow4.alloc _) ⟨w4.heap.size,0,none⟩ 1 1 [.string x] rfl rfl (cell_one_new _ _ _) (by simp[Value.oneCell']) (by omega) ?_;intro w5 hown5 hg5;go_frame)
   |fail)
  have hrg5:=(hrg4.alloc (.cells #[.string x] 9)).kept hg5 (by simp;omega) (by have:=(row_ne_iter hrow4 hrg4);simpa[Value.ownBlock] using this)
  have he:encStr x.data.toList=.string x:=by simp[encStr]
  refine⟨⟨_,cnt4,ss++[x.data.toList],hrg5,by simp;omega,by simp,by simpa[he] using hown5,hC4,?_⟩,?_⟩
  ·exact((hnx.grown hg4 hnx.size (fun j hj=>by cases hj;exact hg3.size)).alloc (by have:=hnx.size;have:=hg4.size;omega) _).grown hg5 (by have:=hnx.size;have:=hg4.size;simp;omega) (fun j hj=>by cases hj;exact ai _)
  rw[hrg5.left_eq,hrg.left_eq];exact hlt
