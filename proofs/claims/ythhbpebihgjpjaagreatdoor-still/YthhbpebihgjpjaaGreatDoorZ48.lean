import Derived.Test.YthhbpebihgjpjaaGreatDoorZ46
namespace Go.Proofs.YthhbpebihgjpjaaGreatDoor
set_option maxRecDepth 1000000
set_option maxHeartbeats 20000000
set_option linter.all false
section
open Go.RowKit
variable {w:aj}
theorem GJ(ty:TypeId)(B:Nat)(v:Value)(n:Nat)(ds:List Value)(hown:w.ownsRow B 9 1 v n ds)(x:Value)(l:List ah)(hx:bG w x l)(hle:n+l.length<=100000000)(hb:B<=w.heap.size):∃Bl cap' w',(Builtin.append_ #[32,32] ty #[v,x]).run Tryz.prog w=.ok (.slice Bl (n+l.length) cap') w'/\w'.ownsRow B 9 1 (.slice Bl (n+l.length) cap') (n+l.length) (ds++l.map Value.string)/\w.grownBy w' v.ownBlock/\∀k,(Value.slice Bl (n+l.length) cap').ownBlock=some k->v.ownBlock=some k\/w.heap.size<=k:=by
 have hinf:(Tryz.prog.info? 9).map (fun i=>(i.size,i.bytes,i.zero))=some (1,16,some (.string ⟨#[]⟩)):=by kernel_rfl
 obtain⟨ti,hti,htj⟩:=aX.1 hinf;simp only[Prod.mk.injEq] at htj;obtain⟨ao,cap,rfl,hc,hh⟩:=hx
 have main:∀b o,ao=some ⟨b,o,none⟩->(∀k s,l[k]?=some s->w.cell? ⟨b,o+k,none⟩=some (.string s))->∃Bl cap' w',(Builtin.append_ #[32,32] ty #[v,.slice ao l.length cap]).run Tryz.prog w=.ok (.slice Bl (n+l.length) cap') w'/\w'.ownsRow B 9 1 (.slice Bl (n+l.length) cap') (n+l.length) (ds++l.map Value.string)/\w.grownBy w' v.ownBlock/\∀k,(Value.slice Bl (n+l.length) cap').ownBlock=some k->v.ownBlock=some k\/w.heap.size<=k:=by
  intro b o hao hcell;subst hao
  obtain⟨v',w',hr,h2,h3,_,h5⟩:=run_append_own_at (P:=Tryz.prog) w B 32 ty 9 ti (.string ⟨#[]⟩) 1 16 Tryz.underlying32 hti htj.2.2 htj.1 htj.2.1 rfl (by decide) v n ds hown ⟨b,o,none⟩ l.length cap (l.map Value.string) (by rw[jR];omega) (fun j u hu=>by
   have hadd:(⟨b,o,none⟩:Addr).add j=⟨b,o+j,none⟩:=by unfold Addr.add;split<;>simp_all
   rw[dM] at hu;obtain⟨y,hy,rfl⟩:=aX.1 hu
   rw[hadd];exact hcell j y hy) (by intro u hu;obtain⟨y,_,rfl⟩:=fH.1 hu;rfl) (by unfold maxLen;omega) (by omega) hb
  obtain⟨Bl,cap',rfl,_,_⟩:=bq h2;refine⟨Bl,cap',w',hr,h2,h3,fun k hk=>?_⟩
  rcases h5 with h5|h5
  ·exact aG (by rw[<-h5];exact hk)
  rw[hk] at h5;have:=ak h5;exact aL (by omega)
 rcases hh with ⟨h0,rfl,_⟩|⟨b,o,rfl,hcell⟩
 ·cases ao with
  |none=>
   obtain rfl:=h0 rfl;obtain⟨Bl,cap',rfl,_,_⟩:=bq hown;refine⟨Bl,cap',w,run_append_owned_none (P:=Tryz.prog) (w:=w) B 32 ty 9 ti 1 Tryz.underlying32 hti _ n ds hown,?_,⟨rfl,rfl,rfl,ai _,fun _ _ _=>rfl⟩,fun k hk=>aG hk⟩;rw[CR,fF];exact hown
  |some a=>
   obtain⟨b,o,f⟩:=a;obtain⟨v',w',hr,h2,h3,_,h5⟩:=run_append_own_at (P:=Tryz.prog) w B 32 ty 9 ti (.string ⟨#[]⟩) 1 16 Tryz.underlying32 hti htj.2.2 htj.1 htj.2.1 rfl (by decide) v n ds hown ⟨b,o,f⟩ 0 cap [] rfl (fun j u hu=>by simp at hu) (fun u hu=>by cases hu) (by unfold maxLen;simp at hle;omega) (by simp at hle;omega) hb;obtain⟨Bl,cap',rfl,_,_⟩:=bq h2;refine⟨Bl,cap',w',hr,h2,h3,fun k hk=>?_⟩
   rcases h5 with h5|h5
   ·exact aG (by rw[<-h5];exact hk)
   have hk':(Value.slice Bl (n+0) cap').ownBlock=some k:=hk;rw[hk'] at h5;have:=ak h5;exact aL (by omega)
 exact main b o rfl hcell
variable {o:Oper}
theorem Jc{w:aj}{a:Act}{K:Act->aj->Prop}{Q:Exit->Act->aj->Prop}(s x:Operand)
  (ho:o.op=.call {callee:=.builtin .append,args:=#[s,x],argTypes:=#[32,32]}) (B:Nat) (v:Value) (n:Nat) (ds:List Value) (hs:a.eval s=v) (hown:w.ownsRow B 9 1 v n ds) (vx:Value) (l:List ah) (hx:a.eval x=vx) (hxl:bG w vx l) (hle:n+l.length<=100000000) (hb:B<=w.heap.size)
  (h:∀Bl cap' w',w'.ownsRow B 9 1 (.slice Bl (n+l.length) cap') (n+l.length) (ds++l.map Value.string)->w.grownBy w' v.ownBlock->(∀k,(Value.slice Bl (n+l.length) cap').ownBlock=some k->v.ownBlock=some k\/w.heap.size<=k)->K (a.put o.dst (.slice Bl (n+l.length) cap')) w'):o.wp Tryz.prog a w K Q:=by
 obtain⟨Bl,cap',w',hr,h2,h3,h4⟩:=GJ o.type B v n ds hown vx l hxl hle hb;unfold Oper.wp execOp;simp only[ho,resolve,invoke,builtin,NH,Sem.run_pure,Result.andThen_ok,List.map_toArray,mD,CR,hs,hx,hr];exact h Bl cap' w' h2 h3 h4
theorem yJ{w:aj}{ops:Array Oper}{a:Act}{K:Act->aj->Prop}{Q:Exit->Act->aj->Prop}{E:Prop}(hgd:o.guard=none)(s x:Operand)
  (ho:o.op=.call {callee:=.builtin .append,args:=#[s,x],argTypes:=#[32,32]}) (B:Nat) (v:Value) (n:Nat) (ds:List Value) (hs:a.eval s=v) (hown:w.ownsRow B 9 1 v n ds) (vx:Value) (l:List ah) (hx:a.eval x=vx) (hxl:bG w vx l) (hle:n+l.length<=100000000) (hb:B<=w.heap.size)
  (h:∀Bl cap' w',w'.ownsRow B 9 1 (.slice Bl (n+l.length) cap') (n+l.length) (ds++l.map Value.string)->w.grownBy w' v.ownBlock->(∀k,(Value.slice Bl (n+l.length) cap').ownBlock=some k->v.ownBlock=some k\/w.heap.size<=k)->K (a.put o.dst (.slice Bl (n+l.length) cap')) w'):if Region.wanted o (yielded ops a.tmps)=true then Oper.wp Tryz.prog o a w K Q else E:=by
 have hw:Region.wanted o (yielded ops a.tmps)=true:=by simp[Region.wanted,hgd]
 rw[aD hw];exact Jc s x ho B v n ds hs hown vx l hx hxl hle hb h
end
section
open Go.RowKit Go.Maps
def JD(A:Nat->Nat)(a:Nat->Addr)(t:Nat->ah)(left fb:Nat)(q:(Int×Int)×eZ)(w:aj)(e:Ending)(w':aj):Prop:=
 ∃r1 r2 r3 r4 A',e=.returned (.tuple #[.agg #[r1,r2,r3,r4],.int .i64 q.1.1,.int .i64 q.1.2])/\NG w' r1 r2 r3 r4 q.2/\(∀k,(r1.ownBlock=some k\/r2.ownBlock=some k\/r3.ownBlock=some k\/r4.ownBlock=some k)->w.heap.size<=k/\A' k=0)/\nW A a t left fb q.2.r w w' A'
variable {A:Nat->Nat}{a:Nat->Addr}{t:Nat->ah}{left fb:Nat}{r:bS}{w w':aj}
theorem nY.freed{b:Nat}(h:nY A a t left fb r w)(hb:A b=9)(hs:w.heap.size<=w'.heap.size)(hkp:∀k,k<w.heap.size->k≠b->w'.heap[k]?=w.heap[k]?):nY (fun k=>if k=b then 0 else A k) a t left fb r w':=by
 have hn:∀k,A k<=8->k≠b:=fun k h8 e=>by rw[e,hb] at h8;omega
 have hg:∀k,k<14->w'.heap[k]?=w.heap[k]?:=fun k hk=>hkp k (ay hk h.env.glob) (hn k (by rw[h.env.zero k hk];omega))
 refine⟨⟨h.env.pO.keep hg (fun k hk=>hkp _ (iI (h.env.pO.text k hk)) (hn _ (by rw[h.env.errs k hk];omega))),fun k hk=>(ax (hn k (by rw[h.env.zero k hk];omega))).trans (h.env.zero k hk),fun k hk=>(ax (hn _ (by rw[h.env.errs k hk];omega))).trans (h.env.errs k hk),aA h.env.glob hs⟩,h.rounds.keep hg,h.gl.keep hs hg,(h.files.keep (w':=w') (A':=A) (fun _ _=>rfl) (fun k hk q=>hkp k hk (hn k (by omega)))).Yb (fun k _=>⟨fun e=>(ax (hn k (by omega))).trans e,fun e=>(ax (hn k (by omega))).trans e⟩),fun k hk=>?_,fun k=>?_⟩
 ·show(if k=b then 0 else A k)=0
  split
  ·rfl
  exact h.above k (aA hs hk)
 show(if k=b then 0 else A k)=0\/(if k=b then 0 else A k)=1\/9<=(if k=b then 0 else A k)
 split
 ·exact aG rfl
 exact h.own k
theorem Lc(text:ah)(vt:Value)(ts:List ah)(h:nY A a t (left+2000000) fb r w)(ht:bG w vt ts)(hx:text.size<=140737488351232)(htl:ts.length<=1048576)(hts:∀x∈ts,x.size<=maxLen):
  Calls Tryz.prog 19 #[.pointer (some ⟨fb,0,none⟩),.string text,vt] w (JD A a t left fb (ou r text ts) w):=by
 have hb1:Below w.heap.size w (w.alloc (.cells #[.slice none 0 0,.slice none 0 0,.slice none 0 0,.slice none 0 0] 36)):=(au _ _).alloc (ai _) _;have hs1:(w.alloc (.cells #[.slice none 0 0,.slice none 0 0,.slice none 0 0,.slice none 0 0] 36)).heap.size=w.heap.size+1:=bJ _ _;have HW1:Hid (Below w.heap.size w (w.alloc (.cells #[.slice none 0 0,.slice none 0 0,.slice none 0 0,.slice none 0 0] 36))/\(w.alloc (.cells #[.slice none 0 0,.slice none 0 0,.slice none 0 0,.slice none 0 0] 36)).heap[w.heap.size]?=some (.cells #[.slice none 0 0,.slice none 0 0,.slice none 0 0,.slice none 0 0] 36 (0,0))/\(w.alloc (.cells #[.slice none 0 0,.slice none 0 0,.slice none 0 0,.slice none 0 0] 36)).heap.size=w.heap.size+1):=⟨hb1,aW _ _ _ rfl,hs1⟩;have HTP:=aY (VA text vt ts (h.mark hb1 (by omega)) (ht.gY hb1) hx htl hts)
 have HI:Hid ((Tryz.prog.info? 36).map (·.size)=some 4):=by unfold Hid;kernel_rfl
 obtain⟨aot,adq,rfl,_,_⟩:=ht;generalize ts.length=TL at*;clear h hx htl hts hb1 hs1
 go_enter Tryz.func19,Tryz.ntmps19
 go_wp2_with fail
 generalize w.alloc (.cells #[.slice none 0 0,.slice none 0 0,.slice none 0 0,.slice none 0 0] 36)=w1 at*;refine HTP.out.mono ?_;rintro e2 w2 ⟨ve,r1,r2,r3,r4,A2,rfl,afY,hrep,hzero,hbe⟩;have H2:=aP (aK afY (aK hrep (aK hzero hbe)));have hvf:=afY.1;obtain⟨o1,p1,hv1,_,_⟩:=bq hrep.ran;obtain⟨o2,p2,hv2,_,_⟩:=bq hrep.cl;obtain⟨o3,p3,hv3,_,_⟩:=bq hrep.fa;obtain⟨o4,p4,hv4,_,_⟩:=bq hrep.bl;generalize (ou r text ts).2.ran.length=n1 at*;generalize (ou r text ts).2.cl.length=n2 at*;generalize (ou r text ts).2.fa.length=n3 at*;generalize (ou r text ts).2.bl.length=n4 at*;clear afY hrep hzero hbe HTP;subst hv1 hv2 hv3 hv4;have Nw:Hid (Below w2.heap.size w2 (w2.alloc (.cells #[.slice o1 n1 p1,.slice o2 n2 p2,.slice o3 n3 p3,.slice o4 n4 p4] 36))):=(au _ _).alloc (ai _) _
 rcases hvf with rfl|⟨TT,xx,rfl⟩
 all_goals
  have HNU:=aY (H2.out.1.2 _ Nw.out)
  go_wp2_with fail
  refine HNU.out.mono ?_;rintro e4 w4 ⟨rfl,hb4⟩;have Zi:Below w2.heap.size w2 w4:=Nw.out.trans (hb4.mono Nw.out.size);have hw9:A2 w.heap.size=9:=(H2.out.2.2.2.2.1 w.heap.size (bI HW1.out.2.1)).trans (aD rfl);have hr2:w2.heap[w.heap.size]?=some (.cells #[.slice none 0 0,.slice none 0 0,.slice none 0 0,.slice none 0 0] 36 (0,0)):=(H2.out.2.2.2.2.2.block w.heap.size (bI HW1.out.2.1) (fun q=>by have q2:(9:Nat)=1:=(aD rfl).symm.trans q;omega)).trans HW1.out.2.1;have hr4:w4.heap[w.heap.size]?=some (.cells #[.slice none 0 0,.slice none 0 0,.slice none 0 0,.slice none 0 0] 36 (0,0)):=(Zi.block _ (bI hr2)).trans hr2;have hd4:w4.heap[w2.heap.size]?=some (.cells #[.slice o1 n1 p1,.slice o2 n2 p2,.slice o3 n3 p3,.slice o4 n4 p4] 36 (0,0)):=(hb4.block w2.heap.size (by rw[bJ];omega)).trans (aW _ _ _ rfl)
  have dc:∀i,w4.cell? ⟨w2.heap.size,i,none⟩=(#[Value.slice o1 n1 p1,.slice o2 n2 p2,.slice o3 n3 p3,.slice o4 n4 p4]:Array Value)[i]?:=fun i=>bZ hd4
  have d0:=dc 0;have d1:=dc 1;have d2:=dc 2;have d3:=dc 3
  have zc:∀i,w4.cell? ⟨w.heap.size,i,none⟩=(#[Value.slice none 0 0,.slice none 0 0,.slice none 0 0,.slice none 0 0]:Array Value)[i]?:=fun i=>bZ hr4
  have z0:=zc 0;have z1:=zc 1;have z2:=zc 2;have z3:=zc 3;have f0:w4.frozen? ⟨w.heap.size,0,none⟩=false:=iG hr4;have f1:w4.frozen? ⟨w.heap.size,1,none⟩=false:=iG hr4;have f2:w4.frozen? ⟨w.heap.size,2,none⟩=false:=iG hr4;have f3:w4.frozen? ⟨w.heap.size,3,none⟩=false:=iG hr4
  have HRR:Hid (((((w4.setCell ⟨w.heap.size,0,none⟩ (.slice o1 n1 p1)).setCell ⟨w.heap.size,1,none⟩ (.slice o2 n2 p2)).setCell ⟨w.heap.size,2,none⟩ (.slice o3 n3 p3)).setCell ⟨w.heap.size,3,none⟩ (.slice o4 n4 p4)).heap[w.heap.size]?=some (.cells #[.slice o1 n1 p1,.slice o2 n2 p2,.slice o3 n3 p3,.slice o4 n4 p4] 36 (0,0))/\∀k,k≠w.heap.size->((((w4.setCell ⟨w.heap.size,0,none⟩ (.slice o1 n1 p1)).setCell ⟨w.heap.size,1,none⟩ (.slice o2 n2 p2)).setCell ⟨w.heap.size,2,none⟩ (.slice o3 n3 p3)).setCell ⟨w.heap.size,3,none⟩ (.slice o4 n4 p4)).heap[k]?=w4.heap[k]?):=⟨by
   have g0:=eO w4 w.heap.size 0 _ _ (.slice o1 n1 p1) hr4;have g1:=eO _ w.heap.size 1 _ _ (.slice o2 n2 p2) g0;have g2:=eO _ w.heap.size 2 _ _ (.slice o3 n3 p3) g1;have g3:=eO _ w.heap.size 3 _ _ (.slice o4 n4 p4) g2
   exact g3,fun k hk=>by rw[iP (show k≠w.heap.size from hk),iP (show k≠w.heap.size from hk),iP (show k≠w.heap.size from hk),iP (show k≠w.heap.size from hk)]⟩
  have Ba:Hid (JD A a t left fb (ou r text ts) w (.returned (.tuple #[.agg #[.slice o1 n1 p1,.slice o2 n2 p2,.slice o3 n3 p3,.slice o4 n4 p4],.int .i64 (ou r text ts).1.1,.int .i64 (ou r text ts).1.2])) ((((w4.setCell ⟨w.heap.size,0,none⟩ (.slice o1 n1 p1)).setCell ⟨w.heap.size,1,none⟩ (.slice o2 n2 p2)).setCell ⟨w.heap.size,2,none⟩ (.slice o3 n3 p3)).setCell ⟨w.heap.size,3,none⟩ (.slice o4 n4 p4))):=by
   have aby:((((w4.setCell ⟨w.heap.size,0,none⟩ (.slice o1 n1 p1)).setCell ⟨w.heap.size,1,none⟩ (.slice o2 n2 p2)).setCell ⟨w.heap.size,2,none⟩ (.slice o3 n3 p3)).setCell ⟨w.heap.size,3,none⟩ (.slice o4 n4 p4)).heap.size=w4.heap.size:=by rw[dA,dA,dA,dA]
   have hkp:∀k,k<w2.heap.size->k≠w.heap.size->((((w4.setCell ⟨w.heap.size,0,none⟩ (.slice o1 n1 p1)).setCell ⟨w.heap.size,1,none⟩ (.slice o2 n2 p2)).setCell ⟨w.heap.size,2,none⟩ (.slice o3 n3 p3)).setCell ⟨w.heap.size,3,none⟩ (.slice o4 n4 p4)).heap[k]?=w2.heap[k]?:=fun k hk hn=>(HRR.out.2 k hn).trans (Zi.block k hk)
   have hle:w2.heap.size<=((((w4.setCell ⟨w.heap.size,0,none⟩ (.slice o1 n1 p1)).setCell ⟨w.heap.size,1,none⟩ (.slice o2 n2 p2)).setCell ⟨w.heap.size,2,none⟩ (.slice o3 n3 p3)).setCell ⟨w.heap.size,3,none⟩ (.slice o4 n4 p4)).heap.size:=by rw[aby];exact Zi.size
   have hB9:=H2.out.2.2.2.1.freed hw9 hle hkp;have hw1:=HW1.out.2.2
   have hwb:∀k,w1.heap.size<=k->k≠w.heap.size:=fun k hk=>by omega
   have ro:∀{v:Value} {n:Nat} {xs:List Value},w2.ownsRow 0 9 1 v n xs->(∀k,v.ownBlock=some k->w1.heap.size<=k)->((((w4.setCell ⟨w.heap.size,0,none⟩ (.slice o1 n1 p1)).setCell ⟨w.heap.size,1,none⟩ (.slice o2 n2 p2)).setCell ⟨w.heap.size,2,none⟩ (.slice o3 n3 p3)).setCell ⟨w.heap.size,3,none⟩ (.slice o4 n4 p4)).ownsRow 0 9 1 v n xs:=fun {v n xs} hr hn=>dL hr (fun k hk=>hkp k (bA hr k hk).2 (hwb k (hn k hk)))
   have hz:=H2.out.2.2.1;refine⟨_,_,_,_,_,rfl,⟨ro H2.out.2.1.ran (fun k hk=>(hz k (aG hk)).1),ro H2.out.2.1.cl (fun k hk=>(hz k (aL (aG hk))).1),ro H2.out.2.1.fa (fun k hk=>(hz k (aL (aL (aG hk)))).1),ro H2.out.2.1.bl (fun k hk=>(hz k (aL (aL (aL hk)))).1)⟩,fun k hk=>⟨by have:=(hz k hk).1;omega,(ax (hwb k (hz k hk).1)).trans (hz k hk).2⟩,hB9,fun k hk=>(ax (by omega)).trans ((H2.out.2.2.2.2.1 k (by omega)).trans (ax (by omega))),?_⟩;have ht:=H2.out.2.2.2.2.2;refine⟨Zi.os.trans (ht.os.trans HW1.out.1.os),Zi.output.trans (ht.output.trans HW1.out.1.output),aA HW1.out.1.size (aA ht.size hle),fun k hk hn=>?_⟩;rw[hkp k (by have:=ht.size;omega) (by omega),ht.block k (by omega) (fun q=>hn ((ax (show¬k=w.heap.size by omega)).symm.trans q))];exact HW1.out.1.block k hk
  clear hb4 Zi hw9 hr2 hr4 hd4 dc zc HNU H2 Nw;generalize (ou r text ts).1.1=num at*;generalize (ou r text ts).1.2=line at*
  go_wp2_with fail
  refine bP (zw rfl _ _ _ w.heap.size 0 [Value.slice o1 n1 p1,.slice o2 n2 p2,.slice o3 n3 p3,.slice o4 n4 p4] _ rfl (fun i u hu=>by rw[bZ HRR.out.1,bW,<-bV];exact hu) Tryz.underlying36 rfl HI.out) rfl ?_;exact Ba.out
variable {A':Nat->Nat}
theorem nY.turn(h:nY A a t left fb r w)(hs:w.heap.size<=w'.heap.size)(hA:∀k,k<w.heap.size->A' k=A k)(hb:∀k,k<w.heap.size->A k<=8->w'.heap[k]?=w.heap[k]?)(ha:∀k,w'.heap.size<=k->A' k=0)(ho:∀k,w.heap.size<=k->A' k=0\/9<=A' k):nY A' a t left fb r w':=by
 have hg:∀k,k<14->w'.heap[k]?=w.heap[k]?:=fun k hk=>hb k (ay hk h.env.glob) (by rw[h.env.zero k hk];decide)
 refine⟨h.env.keep hs hA (fun k hk h0=>hb k hk (by omega)),h.rounds.keep hg,h.gl.keep hs hg,h.files.keep hA (fun k hk q=>hb k hk (by omega)),ha,fun k=>?_⟩
 by_cases q:k<w.heap.size
 ·rw[hA k q];exact h.own k
 rcases ho k (by omega) with e|e
 ·exact aG e
 exact aL (aL e)
variable {c:Nat}{r':bS}
theorem nY.stepped{d':dQ}(h:nY A a t (left+1) fb r w)(hc:c+left<=900000000000)(hp:jc A' 1 c fb d' r' w')(hI:rV c r' d')(hA:∀k,k<w.heap.size->A' k=A k)(ht:aQ (fun k=>A k=1) w w'):∃A3,nW A a t left fb r' w w' A3:=by
 have hA3:∀k,k<w.heap.size->(if k<w.heap.size then A k else if k<w'.heap.size/\A' k=1 then 1 else 0)=A k:=fun k hk=>aD hk
 have hkp:∀k,k<w.heap.size->A k≠1->w'.heap[k]?=w.heap[k]?:=fun k hk hn=>ht.block k hk hn
 have hg:∀k,k<14->w'.heap[k]?=w.heap[k]?:=fun k hk=>hkp k (ay hk h.env.glob) (by rw[h.env.zero k hk];decide)
 have hf:pY A' left fb r' w':=⟨c,d',hc,hp,hI⟩;refine⟨fun k=>if k<w.heap.size then A k else if k<w'.heap.size/\A' k=1 then 1 else 0,⟨h.env.keep ht.size hA3 (fun k hk h0=>hkp k hk (by omega)),h.rounds.keep hg,h.gl.keep ht.size hg,hf.Yb (fun k hk=>?_),fun k hk=>?_,fun k=>?_⟩,hA3,ht⟩
 ·by_cases q:k<w.heap.size
  ·rw[aD q,hA k q];exact⟨id,id⟩
  rw[ax q];exact⟨fun e=>aD ⟨hk,e⟩,fun e=>ax (fun q=>by have:=q.2;omega)⟩
 ·have hw:w.heap.size<=k:=aA ht.size hk;show(if k<w.heap.size then A k else if k<w'.heap.size/\A' k=1 then 1 else 0)=0;rw[ax (by omega),ax (fun q=>by have:=q.1;omega)]
 show(if k<w.heap.size then A k else if k<w'.heap.size/\A' k=1 then 1 else 0)=0\/(if k<w.heap.size then A k else if k<w'.heap.size/\A' k=1 then 1 else 0)=1\/9<=(if k<w.heap.size then A k else if k<w'.heap.size/\A' k=1 then 1 else 0)
 split
 ·exact h.own k
 split
 ·exact aL (aG rfl)
 exact aG rfl
theorem Wo(h:nY A a t (left+1) fb r w)(name data:ah)(hn:name.size<=140737488351232)(hd:data.size<=140737488351232):
  Calls Tryz.prog 29 #[.pointer (some ⟨fb,0,none⟩),.string name,.string data] w fun e w'=>e=.returned (.int .i64 (eu r name data).1)/\∃A3,nW A a t left fb (eu r name data).2 w w' A3:=by
 obtain⟨c,d,hc,hp,hI⟩:=h.files;refine(Lg (by decide) h.env hp hI (by omega) name data hn hd).mono ?_;rintro e w' ⟨d',A',rfl,h1,h2,h3,h4⟩;exact⟨rfl,h.stepped (by omega) h1 h2 h3 h4⟩
theorem Tj(h:nY A a t (left+1) fb r w)(name:ah)(hn:name.size<=140737488351232):
  Calls Tryz.prog 51 #[.pointer (some ⟨fb,0,none⟩),.string name] w fun e w'=>e=.returned (.int .i64 (sV r name).1)/\∃A3,nW A a t left fb (sV r name).2 w w' A3:=by
 obtain⟨c,d,hc,hp,hI⟩:=h.files;refine(IY (by decide) h.env hp hI (by omega) name hn).mono ?_;rintro e w' ⟨d',A',rfl,h1,h2,h3,h4⟩;exact⟨rfl,h.stepped (by omega) h1 h2 h3 h4⟩
def XD(A:Nat->Nat)(a:Nat->Addr)(t:Nat->ah)(left fb:Nat)(q:bS)(w:aj)(e:Ending)(w':aj):Prop:=e=.returned (.tuple #[])/\∃A3,nW A a t left fb q w w' A3
variable {e:Ending}
theorem nY.abY{q:bS}(h:nY A a t (left+1) fb r w)(hc:c+(left+1)<=900000000000)(hq:XJ A 1 c fb q w e w'):XD A a t left fb q w e w':=by
 obtain⟨d',A',rfl,h1,h2,h3,h4⟩:=hq;exact⟨rfl,h.stepped (by omega) h1 h2 h3 h4⟩
theorem Oi(h:nY A a t (left+1) fb r w)(n:Int)(hn:n<=9223372036854775807):
  Calls Tryz.prog 52 #[.pointer (some ⟨fb,0,none⟩),.int .i64 n] w (XD A a t left fb {r with lit:=decide (0<n),left:=n} w):=by
 obtain⟨c,d,hc,hp,hI⟩:=h.files
 exact(ZM (by decide) hp hI n hn).mono fun e w' hq=>h.abY hc hq
theorem Oj(h:nY A a t (left+1) fb r w)(n:Int):
  Calls Tryz.prog 41 #[.pointer (some ⟨fb,0,none⟩),.int .i64 n] w (XD A a t left fb {r with room:=min (max n 0) 65536} w):=by
 obtain⟨c,d,hc,hp,hI⟩:=h.files
 exact(ZN (by decide) hp hI n).mono fun e w' hq=>h.abY hc hq
theorem KH(h:nY A a t (left+1) fb r w)(keep cut:Int):
  Calls Tryz.prog 40 #[.pointer (some ⟨fb,0,none⟩),.int .i64 keep,.int .i64 cut] w (XD A a t left fb (BK r keep cut) w):=by
 obtain⟨c,d,hc,hp,hI⟩:=h.files
 exact(WY (by decide) hp hI (by omega) keep cut).mono fun e w' hq=>h.abY hc hq
theorem nY.read{d:dQ}(h:nY A a t left fb r w)(hc:c+left<=900000000000)(hp:jc A 1 c fb d r w')(hI:rV c r d)(ht:aQ (fun k=>A k=1) w w'):nW A a t left fb r w w' A:=by
 have hkp:∀k,k<w.heap.size->A k≠1->w'.heap[k]?=w.heap[k]?:=fun k hk hn=>ht.block k hk hn
 have hg:∀k,k<14->w'.heap[k]?=w.heap[k]?:=fun k hk=>hkp k (ay hk h.env.glob) (by rw[h.env.zero k hk];decide)
 exact⟨⟨h.env.keep ht.size (fun _ _=>rfl) (fun k hk h0=>hkp k hk (by omega)),h.rounds.keep hg,h.gl.keep ht.size hg,⟨c,d,hc,hp,hI⟩,fun k hk=>h.above k (aA ht.size hk),h.own⟩,fun _ _=>rfl,ht⟩
theorem xD(h:nY A a t left fb r w)(name:ah)(hn:name.size<=140737488351232):
  Calls Tryz.prog 21 #[.pointer (some ⟨fb,0,none⟩),.string name] w fun e w'=>e=.returned (.tuple #[.string ((dG r name).getD ⟨#[]⟩),.int .i64 (if (dG r name).isSome=true then 0 else 2)])/\nW A a t left fb r w w' A:=by
 obtain⟨c,d,hc,hp,hI⟩:=h.files;refine(Ni (by decide) h.env hp name hn).mono ?_;rintro e w' ⟨rfl,h1,h2⟩;refine⟨?_,h.read hc h1 hI h2⟩;rw[Gs]
theorem KI(h:nY A a t left fb r w):
  Calls Tryz.prog 44 #[.pointer (some ⟨fb,0,none⟩)] w fun e w'=>∃g,w.heap.size<=g/\g<w'.heap.size/\A g=0/\e=.returned (.slice (some ⟨g,0,none⟩) r.seen.length r.seen.length)/\(∀i x,(r.seen.map (·.1))[i]?=some x->w'.cell? ⟨g,i,none⟩=some (.string x))/\nW A a t left fb r w w' A:=by
 obtain⟨c,d,hc,hp,hI⟩:=h.files;refine(WZ (by decide) hp hI (by omega)).mono ?_;rintro e w' ⟨g,hg,rfl,hr,h1,h2⟩;have hgl:=(bA hr g rfl).2;refine⟨g,hg,hgl,h.above g hg,rfl,fun i x hx=>?_,h.read hc h1 hI h2⟩
 obtain⟨z,hz,rfl⟩:∃z,r.seen[i]?=some z/\z.1=x:=by
  rw[dM] at hx;exact aX.1 hx
 have h3:=(dO hr i (.string z.1) (by unfold rO;rw[dM,dM,hz];rfl)).1;exact h3
structure KV where
 x:ah
 v:Nat->Value
 l:Nat->List ah
 vo:Bool
def KV.put(v:KV)(i:Nat)(u:Value)(l:List ah):KV:=⟨v.x,fun j=>if j=i then u else v.v j,fun j=>if j=i then l else v.l j,v.vo⟩
structure KW(w0:aj)(A:Nat->Nat)(a:Nat->Addr)(t:Nat->ah)(left fb wb:Nat)(r:bS)(v:KV)(w:aj):Prop where
 base:nY A a t left fb r w
 row:w.heap[wb]?=some (.cells #[.pointer (some ⟨fb,0,none⟩),.string v.x,v.v 2,v.v 3,v.v 4,.bool v.vo] 34 (0,0))
 own:∀i,2<=i->i<=4->w.ownsRow 0 9 1 (v.v i) (v.l i).length ((v.l i).map Value.string)
 cw:A wb=10
 cl:∀i,2<=i->i<=4->∀k,(v.v i).ownBlock=some k->A k=9+i
 bl:aQ (fun k=>w0.heap.size<=k) w0 w
 low:∀k,k<w0.heap.size->A k=0
 text:v.x.size<=140737488351232
 each:∀y∈v.l 2,y.size<=140737488351232
def KF(A:Nat->Nat)(k:Nat):Prop:=A k=1\/10<=A k
def zF(w0:aj)(A:Nat->Nat)(a:Nat->Addr)(t:Nat->ah)(left fb wb:Nat)(r:bS)(v:KV)(w w':aj):Prop:=∃A',KW w0 A' a t left fb wb r v w'/\(∀k,k<w.heap.size->A' k=A k)/\aQ (KF A) w w'
variable {w1 w2:aj}
theorem xV(hA:∀k,k<w.heap.size->A' k=A k)(h1:aQ (KF A) w w1)(h2:aQ (KF A') w1 w2):aQ (KF A) w w2:=
 h1.trans h2 (fun k hk=>by
  by_cases q:k<w.heap.size
  ·left;unfold KF at hk⊢;rw[hA k q] at hk;exact hk
  exact aL (by omega))
variable {w0:aj}{wb:Nat}{v:KV}
theorem zF.trans{A1:Nat->Nat}(hA:∀k,k<w.heap.size->A1 k=A k)(ht:aQ (KF A) w w1)(h2:zF w0 A1 a t left fb wb r v w1 w2):zF w0 A a t left fb wb r v w w2:=by
 obtain⟨A2,h3,h4,h5⟩:=h2;exact⟨A2,h3,fun k hk=>(h4 k (ay hk ht.size)).trans (hA k hk),xV hA ht h5⟩
theorem zF.after(hb:Below w.heap.size w w1)(h2:zF w0 A a t left fb wb r v w1 w2):zF w0 A a t left fb wb r v w w2:=zF.trans (fun _ _=>rfl) (aQ.of_below _ hb) h2
variable {left':Nat}
theorem KW.keep(h:KW w0 A a t left fb wb r v w)(hB:nY A' a t left' fb r' w')(hA:∀k,k<w.heap.size->A' k=A k)(ht:aQ (fun k=>A k=1) w w'):KW w0 A' a t left' fb wb r' v w' where
 base:=hB
 row:=(ht.block wb (bI h.row) (by rw[h.cw];decide)).trans h.row
 own i h2 h4:=dL (h.own i h2 h4) (fun k hk=>ht.block k (bA (h.own i h2 h4) k hk).2 (by rw[h.cl i h2 h4 k hk];omega))
 cw:=by rw[hA _ (bI h.row)];exact h.cw
 cl i h2 h4 k hk:=by rw[hA k (bA (h.own i h2 h4) k hk).2];exact h.cl i h2 h4 k hk
 bl:=h.bl.trans ht (fun i hi=>aL (by
  rcases bR i w0.heap.size with q|q
  ·rw[h.low i q] at hi;cases hi
  exact q))
 low k hk:=by rw[hA k (ay hk h.bl.size)];exact h.low k hk
 text:=h.text
 each:=h.each
theorem KW.below(h:KW w0 A a t left fb wb r v w)(hb:Below w.heap.size w w'):KW w0 A a t left fb wb r v w':=h.keep (h.base.below hb) (fun _ _=>rfl) (aQ.of_below _ hb)
theorem KW.less(h:KW w0 A a t left fb wb r v w)(hl:left'<=left):KW w0 A a t left' fb wb r v w:={h with base:=h.base.less hl}
theorem KW.texts(h:KW w0 A a t left fb wb r v w):bG w (v.v 2) (v.l 2):=mV (h.own 2 (ai _) (by decide))
variable {i:Nat}{v':KV}
theorem KW.cell{u:Value}(h:KW w0 A a t left fb wb r v w)(hr:(#[.pointer (some ⟨fb,0,none⟩),.string v.x,v.v 2,v.v 3,v.v 4,.bool v.vo]:Array Value).setIfInBounds i u=#[.pointer (some ⟨fb,0,none⟩),.string v'.x,v'.v 2,v'.v 3,v'.v 4,.bool v'.vo])(hv:v'.v=v.v/\v'.l=v.l)(hx:v'.x.size<=140737488351232):zF w0 A a t left fb wb r v' w (w.setCell ⟨wb,i,none⟩ u):=by
 have hne:∀k,A k≠10->k≠wb:=fun k q e=>q (by rw[e];exact h.cw)
 have hkp:∀k,A k≠10->(w.setCell ⟨wb,i,none⟩ u).heap[k]?=w.heap[k]?:=fun k q=>iP (show k≠wb from hne k q)
 have hsz:(w.setCell ⟨wb,i,none⟩ u).heap.size=w.heap.size:=dA _ _ _;have ht:aQ (fun k=>k=wb) w (w.setCell ⟨wb,i,none⟩ u):=⟨rfl,rfl,by rw[hsz];exact ai _,fun k _ q=>iP (show k≠wb from q)⟩
 have hw0:w0.heap.size<=wb:=by
  rcases bR wb w0.heap.size with q|q
  ·have:=h.low wb q;rw[h.cw] at this;omega
  exact q
 refine⟨A,⟨h.base.turn ht.size (fun _ _=>rfl) (fun k _ q=>hkp k (by omega)) (fun k hk=>h.base.above k (by omega)) (fun k hk=>aG (h.base.above k hk)),?_,fun j h2 h4=>?_,h.cw,fun j h2 h4 k hk=>h.cl j h2 h4 k (by rw[hv.1] at hk;exact hk),h.bl.trans ht (fun k e=>aL (by omega)),h.low,hx,fun y hy=>h.each y (by rw[hv.2] at hy;exact hy)⟩,fun _ _=>rfl,ht.mono (fun k e=>aL (by rw[e,h.cw];decide))⟩
 ·rw[xY h.row,hr]
 rw[hv.1,hv.2];exact dL (h.own j h2 h4) (fun k hk=>hkp k (by rw[h.cl j h2 h4 k hk];omega))
variable {cap n:Nat}{x:ah}
theorem KW.add{g:Nat}{w7:aj}(h:KW w0 A a t left fb wb r v w)(h2:2<=i)(h4:i<=4)(hn:(v.l i).length=n)(hg:w.grownBy w7 (v.v i).ownBlock)(hat:(v.v i).ownBlock=some g\/g=w.heap.size)(hr:w7.ownsRow 0 9 1 (.slice (some ⟨g,0,none⟩) (n+1) cap) (n+1) ((v.l i).map Value.string++[.string x]))(hx:i=2->x.size<=140737488351232):w7.cell? ⟨wb,i,none⟩=some (v.v i)/\w7.frozen? ⟨wb,i,none⟩=false/\zF w0 A a t left fb wb r (v.put i (.slice (some ⟨g,0,none⟩) (n+1) cap) (v.l i++[x])) w (w7.setCell ⟨wb,i,none⟩ (.slice (some ⟨g,0,none⟩) (n+1) cap)):=by
 subst hn;have hwl:=bI h.row
 have hvw:(v.v i).ownBlock≠some wb:=fun e=>by have h1:=h.cl i h2 h4 wb e;rw[h.cw] at h1;omega
 have AO:w7.heap[wb]?=_:=(hg.block wb hwl (fun e=>hvw e.symm)).trans h.row
 have hgw:g≠wb:=fun e=>by
  rcases hat with q|q
  ·exact hvw (by rw[<-e];exact q)
  omega
 have hgl:=(bA hr g rfl).2;generalize hU:Value.slice (some ⟨g,0,none⟩) ((v.l i).length+1) cap=U at*
 have hUo:U.ownBlock=some g:=by rw[<-hU];rfl
 have hkp:∀k,k<w.heap.size->A k≠10->A k≠9+i->(w7.setCell ⟨wb,i,none⟩ U).heap[k]?=w.heap[k]?:=fun k hk h1 h3=>(iP (show k≠wb from fun e=>h1 (by rw[e];exact h.cw))).trans (hg.block k hk (fun e=>h3 (h.cl i h2 h4 k e.symm)))
 have hA2:∀k,k<w.heap.size->(if k=g then 9+i else A k)=A k:=fun k hk=>by
  by_cases q:k=g
  ·rw[aD q]
   rcases hat with e|e
   ·exact(h.cl i h2 h4 k (by rw[q];exact e)).symm
   omega
  exact ax q
 have hs:w.heap.size<=(w7.setCell ⟨wb,i,none⟩ U).heap.size:=by rw[dA];exact hg.size
 have hgA:w.heap.size<=g\/A g=9+i:=by
  rcases hat with e|e
  ·exact aL (h.cl i h2 h4 g e)
  exact aG (by omega)
 have ht:aQ (fun k=>A k=10\/A k=9+i) w (w7.setCell ⟨wb,i,none⟩ U):=⟨hg.os,hg.output,hs,fun k hk q=>hkp k hk (fun e=>q (aG e)) (fun e=>q (aL e))⟩;refine⟨?_,iG AO,fun k=>if k=g then 9+i else A k,⟨h.base.turn hs hA2 (fun k hk q=>hkp k hk (by omega) (by omega)) (fun k hk=>?_) (fun k hk=>?_),?_,fun j q2 q4=>?_,(hA2 wb hwl).trans h.cw,fun j q2 q4 k hk=>?_,h.bl.trans ht (fun k e=>?_),fun k hk=>(hA2 k (ay hk h.bl.size)).trans (h.low k hk),h.text,fun y hy=>?_⟩,hA2,ht.mono (fun k e=>aL (by omega))⟩
 ·rw[bZ AO]
  obtain rfl|rfl|rfl:i=2\/i=3\/i=4:=by omega
  all_goals rfl
 ·rw[dA] at hk;exact(ax (by omega)).trans (h.base.above k (aA hg.size hk))
 ·by_cases q:k=g
  ·exact aL (by show 9<=(if k=g then 9+i else A k);rw[aD q];omega)
  exact aG ((ax q).trans (h.base.above k hk))
 ·rw[xY AO]
  obtain rfl|rfl|rfl:i=2\/i=3\/i=4:=by omega
  all_goals rfl
 ·by_cases q:j=i
  ·subst q;show World.ownsRow _ 0 9 1 (if j=j then U else v.v j) (if j=j then v.l j++[x] else v.l j).length ((if j=j then v.l j++[x] else v.l j).map Value.string);rw[aD rfl,aD rfl,aF,iC];exact dL hr (fun k hk=>iP (show k≠wb from fun e=>hgw (by rw[hUo] at hk;rw[<-e];exact ak hk)))
  show World.ownsRow _ 0 9 1 (if j=i then U else v.v j) (if j=i then v.l i++[x] else v.l j).length ((if j=i then v.l i++[x] else v.l j).map Value.string);rw[ax q,ax q];exact dL (h.own j q2 q4) (fun k hk=>hkp k (bA (h.own j q2 q4) k hk).2 (by rw[h.cl j q2 q4 k hk];omega) (by rw[h.cl j q2 q4 k hk];omega))
 ·have hk':(if j=i then U else v.v j).ownBlock=some k:=hk
  by_cases q:j=i
  ·rw[aD q,hUo] at hk';show(if k=g then 9+i else A k)=9+j;rw[aD (ak hk').symm,q]
  rw[ax q] at hk';exact(hA2 k (bA (h.own j q2 q4) k hk').2).trans (h.cl j q2 q4 k hk')
 ·rcases bR k w0.heap.size with q|q
  ·have:=h.low k q;omega
  exact aL q
 have hy':y∈(if 2=i then v.l i++[x] else v.l 2):=hy
 by_cases q:2=i
 ·rw[aD q] at hy'
  rcases bK.1 hy' with hy'|hy'
  ·exact h.each y (by rw[q];exact hy')
  rw[bg.1 hy'];exact hx q.symm
 rw[ax q] at hy';exact h.each y hy'
def EB(l:List ah)(s:ah):List ah:=if eT s l=true then l else l++[s]
theorem abL(t:ah)(ht:t.size<140737488355328)(w:aj)(hR:jw w):
  Calls Tryz.prog 77 #[.string t] w fun e w'=>e=.returned (.string (gM t))/\Below w.heap.size w w':=by
 refine(aeg Ia t ht w hR KJ).mono ?_;rintro e w' ⟨s,hs,rfl,hb⟩;exact⟨by rw[hs.out];rfl,hb⟩
def aaZ(w0:aj)(A:Nat->Nat)(a:Nat->Addr)(t:Nat->ah)(left fb wb:Nat)(r:bS)(v:KV)(y:ah)(w:aj)(e:Ending)(w':aj):Prop:=
 e=.returned (.string (gM y))/\∃v',zF w0 A a t left fb wb r v' w w'/\v'.x=v.x/\v'.v 2=v.v 2/\v'.l 2=v.l 2/\(v'.l 3).length=(v'.l 4).length/\v'.l 4=EB (v.l 4) (gM y)
theorem Em(h:KW w0 A a t left fb wb r v w)(hn:(v.l 3).length=(v.l 4).length)(hl:(v.l 4).length<=8000000000000)(y:ah)(hy:y.size<140737488355328):
  Calls Tryz.prog 50 #[.pointer (some ⟨wb,0,none⟩),.string y] w (aaZ w0 A a t left fb wb r v y w):=by
 obtain⟨ti,HTI⟩:=iT (P:=Tryz.prog) (e:=9) (n:=1) (b:=16) (z:=(.string ⟨#[]⟩)) (by kernel_rfl);have HS:=aY (abL y hy w h.base.rounds);have HK:=aY h;have HN:=aY hn;clear h hn hy
 go_enter Tryz.func50,Tryz.ntmps50
 go_wp2_with fail
 refine HS.out.mono ?_;rintro e1 w1 ⟨rfl,hb1⟩;have HB1:=aY hb1;have Pq:=aY (HK.out.below hb1);clear HK hb1 HS;have Yt:Hid (gM y=gM y):=rfl;generalize hSY:gM y=sy at*;have hk4:=Pq.out.own 4 (by decide) (by decide);have hk3:=Pq.out.own 3 (by decide) (by decide);obtain⟨ao4,cap4,hv4,_,hg4⟩:=bq hk4;obtain⟨ao3,aa5,hv3,_,hg3⟩:=bq hk3;generalize hL4:(v.l 4).length=N at*
 have c4:w1.cell? ⟨wb,4,none⟩=some (.slice ao4 N cap4):=by rw[bZ Pq.out.row,<-hv4];rfl
 have c3:w1.cell? ⟨wb,3,none⟩=some (.slice ao3 N aa5):=by rw[HN.out] at hv3;rw[bZ Pq.out.row,<-hv3];rfl
 have c5:w1.cell? ⟨wb,5,none⟩=some (.bool v.vo):=by rw[bZ Pq.out.row];rfl
 have f5:w1.frozen? ⟨wb,5,none⟩=false:=iG Pq.out.row;have HG4:Hid (w1.ownsRow 0 9 1 (.slice ao4 N cap4) N ((v.l 4).map Value.string)/\(0<N->∃g,ao4=some ⟨g,0,none⟩)):=⟨by rw[<-hv4];exact hk4,hg4⟩
 have HG3:Hid (w1.ownsRow 0 9 1 (.slice ao3 N aa5) N ((v.l 3).map Value.string)/\(0<N->∃g,ao3=some ⟨g,0,none⟩)):=by
  rw[HN.out] at hv3 hk3 hg3;exact⟨by rw[<-hv3];exact hk3,hg3⟩
 have HL4:=aY hL4;have HV:Hid (v.v 4=.slice ao4 N cap4/\v.v 3=.slice ao3 N aa5):=⟨hv4,by rw[HN.out] at hv3;exact hv3⟩;clear hk4 hk3 hv4 hv3 hg4 hg3 hL4 Yt
 have l0:(N:Int)<=8000000000000:=by omega
 go_wp2_with fail
 go_loop [6] (fun i=>∃j:Nat,i=.int .i64 j/\j<=N/\eT sy ((v.l 4).take j)=false) (fun i=>N-(intOf i).toNat)
 case atStart=>exact⟨0,rfl,aN _,rfl⟩
 case round=>
  obtain⟨j,rfl,hj,hm⟩:=hrel;have HM:=aY hm;clear hm
  have j0:(0:Int)<=(j:Int):=by omega
  by_cases hlt:j<N
  ·have j1:(j:Int)<(N:Int):=by omega
   obtain⟨x,hx⟩:∃x,(v.l 4)[j]?=some x:=⟨(v.l 4)[j]'(by have:=HL4.out;omega),by simp⟩;obtain⟨z,hz⟩:∃z,(v.l 3)[j]?=some z:=⟨(v.l 3)[j]'(by have:=HL4.out;have:=HN.out;omega),by simp⟩;obtain⟨g4,hq4⟩:=HG4.out.2 (by omega);obtain⟨g3,hq3⟩:=HG3.out.2 (by omega);subst hq4 hq3;have cx:=(dO HG4.out.1 j (.string x) (by rw[dM,hx];rfl)).1;have cz:=(dO HG3.out.1 j (.string z) (by rw[dM,hz];rfl)).1
   have htk:eT sy ((v.l 4).take (j+1))=decide (x=sy):=by
    have h1:(v.l 4).take (j+1)=(v.l 4).take j++[x]:=by rw[dN,hx];rfl
    have h2:eT sy ((v.l 4).take j++[x])=(eT sy ((v.l 4).take j)||decide (x=sy)):=by unfold eT;simp
    rw[h1,h2,HM.out,Bool.false_or]
   have heq:(x.toList==sy.toList)=decide (x=sy):=AR
   by_cases e:x=sy
   ·have q:(x.toList==sy.toList)=true:=by rw[heq];exact bN e
    have HF:Hid (eT sy (v.l 4)=true):=mQ.2 (by rw[<-e];exact aO hx)
    have HFIN:Hid (∀b,zF w0 A a t left fb wb r ⟨v.x,v.v,v.l,b⟩ w1 (w1.setCell ⟨wb,5,none⟩ (.bool b))):=fun b=>Pq.out.cell (by rfl) ⟨rfl,rfl⟩ Pq.out.text
    clear htk heq hx hz e
    cases Ru:v.vo
    all_goals
     rw[Ru] at c5
     go_wp2
     go_ret;refine⟨by rw[hSY];rfl,_,zF.after HB1.out (HFIN.out _),rfl,rfl,rfl,HN.out.trans HL4.out.symm,?_⟩;rw[hSY];exact(aD HF.out).symm
   have q:(x.toList==sy.toList)=false:=by rw[heq];exact bH e
   have HX:Hid (eT sy ((v.l 4).take (j+1))=false):=by rw[htk];exact bH e
   clear htk heq hx hz e
   go_wp2
   exact⟨⟨j+1,by go_num,by omega,HX.out⟩,by simp[intOf];omega⟩
  obtain rfl:j=N:=by omega
  have HF:Hid (eT sy (v.l 4)=false):=by have:=HM.out;rw[bF (dx HL4.out)] at this;exact this
  have Ny:=aP (iH w1 [.string sy] 9);have HK2:=aY (Pq.out.below ((au w1.heap.size w1).alloc (ai _) (.cells #[.string sy] 9)))
  have CZ:Hid ((w1.alloc (.cells #[.string sy] 9)).ownsRow 0 9 1 (.slice ao4 j cap4) j ((v.l 4).map Value.string)):=by have h:=HK2.out.own 4 (by decide) (by decide);rw[HV.out.1,HL4.out] at h;exact h
  clear c3 c5 f5
  go_wp2_with (at_builtin;refine wpList_append_lies _ rfl (.tmp 50) (.tmp 52) 32 rfl 0 9 ti (.string ⟨#[]⟩) 1 16 Tryz.underlying32 HTI.out.1 HTI.out.2.2.2 HTI.out.2.1 HTI.out.2.2.1 rfl (by decide) _ j ((v.l 4).map Value.string) rfl CZ.out ⟨w1.heap.size,0,none⟩ 1 1 [.string sy] rfl rfl Ny.out (by intro u hu;simp only[aV,dz,ko] at hu;rcases hu with rfl;rfl) (by decide) (by unfold maxLen;omega) (by omega) (aN _) _ rfl ?_;intro g7 lS w7 hv7 wT rC xg;refine dI ?_)
  have hadd:=HK2.out.add (i:=4) (x:=sy) (g:=g7) (cap:=lS) (w7:=w7) (by decide) (by decide) HL4.out (by rw[HV.out.1];exact wT) (by rw[HV.out.1];exact rC) hv7 (fun e=>by cases e);have d7:=hadd.1;rw[HV.out.1] at d7;have f7:=hadd.2.1;obtain⟨A8,hk8,Qm,Ku⟩:=hadd.2.2;have Vd:Hid ((∀k,k<w1.heap.size->A8 k=A k)/\aQ (KF A) w1 (w7.setCell ⟨wb,4,none⟩ (.slice (some ⟨g7,0,none⟩) (j+1) lS))):=⟨fun k hk=>Qm k (by rw[bJ];omega),(aQ.of_below (KF A) ((au w1.heap.size w1).alloc (ai _) (.cells #[.string sy] 9))).trans Ku (fun _ q=>aG q)⟩
  have c8:(w7.setCell ⟨wb,4,none⟩ (.slice (some ⟨g7,0,none⟩) (j+1) lS)).cell? ⟨wb,3,none⟩=some (.slice ao3 j aa5):=by rw[bZ hk8.row,<-HV.out.2];rfl
  have HK8:=aY hk8;clear hv7 wT rC xg hadd hk8 Qm Ku CZ Ny HK2 c4
  have HNB:Hid (∀i u,([.string y]:List Value)[i]?=some u->((w7.setCell ⟨wb,4,none⟩ (.slice (some ⟨g7,0,none⟩) (j+1) lS)).alloc (.cells #[.string y] 9)).cell? ((⟨w7.heap.size,0,none⟩:Addr).add i)=some u):=by
   have h:=iH (w7.setCell ⟨wb,4,none⟩ (.slice (some ⟨g7,0,none⟩) (j+1) lS)) [.string y] 9;rw[dA] at h;exact h
  have HK9:=aY (HK8.out.below ((au ((w7.setCell ⟨wb,4,none⟩ (.slice (some ⟨g7,0,none⟩) (j+1) lS))).heap.size (w7.setCell ⟨wb,4,none⟩ (.slice (some ⟨g7,0,none⟩) (j+1) lS))).alloc (ai _) (.cells #[.string y] 9)))
  have HRP:Hid (((w7.setCell ⟨wb,4,none⟩ (.slice (some ⟨g7,0,none⟩) (j+1) lS)).alloc (.cells #[.string y] 9)).ownsRow 0 9 1 (.slice ao3 j aa5) j ((v.l 3).map Value.string)):=by
   have h:=HK9.out.own 3 (by decide) (by decide);have h':((w7.setCell ⟨wb,4,none⟩ (.slice (some ⟨g7,0,none⟩) (j+1) lS)).alloc (.cells #[.string y] 9)).ownsRow 0 9 1 (v.v 3) (v.l 3).length ((v.l 3).map Value.string):=h;rw[HV.out.2,HN.out] at h';exact h'
  unfold Hid
  go_wp2_with (at_builtin;refine wpList_append_lies _ rfl (.tmp 60) (.tmp 62) 32 rfl 0 9 ti (.string ⟨#[]⟩) 1 16 Tryz.underlying32 HTI.out.1 HTI.out.2.2.2 HTI.out.2.1 HTI.out.2.2.1 rfl (by decide) _ j ((v.l 3).map Value.string) rfl HRP.out ⟨w7.heap.size,0,none⟩ 1 1 [.string y] rfl rfl HNB.out (by intro u hu;simp only[aV,dz,ko] at hu;rcases hu with rfl;rfl) (by decide) (by unfold maxLen;omega) (by omega) (aN _) _ rfl ?_;intro g9 ak7 w9 hv9 Cr ah9 alH;refine dI ?_)
  clear d7 f7;generalize (w7.setCell ⟨wb,4,none⟩ (.slice (some ⟨g7,0,none⟩) (j+1) lS))=w8 at*;have hadd:=HK9.out.add (i:=3) (n:=j) (x:=y) (g:=g9) (cap:=ak7) (w7:=w9) (by decide) (by decide) HN.out (by show World.grownBy _ _ (v.v 3).ownBlock;rw[HV.out.2];exact Cr) (by show(v.v 3).ownBlock=_\/_;rw[HV.out.2];exact ah9) hv9 (fun e=>by cases e);have d9:w9.cell? ⟨wb,3,none⟩=some (v.v 3):=hadd.1;rw[HV.out.2] at d9;have f9:=hadd.2.1;have HFIN:=aY hadd.2.2;clear hv9 Cr ah9 alH hadd HRP HNB HK9 c8 HK8;unfold Hid
  go_wp2_with fail
  go_ret;refine⟨by rw[hSY];rfl,_,zF.after HB1.out (zF.trans Vd.out.1 Vd.out.2 (zF.after ((au w8.heap.size w8).alloc (ai _) (.cells #[.string y] 9)) HFIN.out)),rfl,rfl,rfl,?_,?_⟩
  ·show(v.l 3++[y]).length=(v.l 4++[sy]).length;rw[aF,aF,HN.out,HL4.out];rfl
  show v.l 4++[sy]=EB (v.l 4) (gM y);rw[hSY];exact(ax (by rw[HF.out];exact eX)).symm
end
def Fh(l cs:List ah):List ah:=cs.foldl (fun l c=>EB l (gM c)) l
def full(c:ah):Bool:=decide (0<c.size)
variable {l:List ah}{x:ah}
theorem aa1{s:ah}(h:x∈l):x∈EB l s:=by
 unfold EB
 split
 ·exact h
 exact fq _ h
theorem YA(l:List ah)(s:ah):s∈EB l s:=by
 unfold EB
 split
 ·rename_i h;exact mQ.1 h
 exact lQ _ (bg.2 rfl)
theorem JJ(l:List ah)(s:ah):(EB l s).length<=l.length+1:=by
 unfold EB
 split
 ·omega
 rw[aF];exact ai _
theorem OG:∀(cs l:List ah),(Fh l cs).length<=l.length+(cs.filter full).length+(if eT (gM ⟨#[]⟩) l=true then 0 else 1)
 |[],l=>by show l.length<=_;omega
 |c::cs,l=>by
  have ih:=OG cs (EB l (gM c));show(Fh (EB l (gM c)) cs).length<=_
  by_cases hc:full c=true
  ·rw[yo hc,aS];have h1:=JJ l (gM c)
   by_cases hm:eT (gM ⟨#[]⟩) l=true
   ·rw[aD (mQ.2 (aa1 (mQ.1 hm)))] at ih;rw[aD hm];omega
   rw[ax hm]
   split at ih<;>omega
  rw[yj hc]
  have h0:¬0<c.size:=fun e=>hc (bN e)
  obtain rfl:c=⟨#[]⟩:=iD.1 (by omega);rw[aD (mQ.2 (YA l _))] at ih
  by_cases hm:eT (gM ⟨#[]⟩) l=true
  ·have e:EB l (gM ⟨#[]⟩)=l:=aD hm;rw[e] at ih⊢;rw[aD hm];exact ih
  have h1:=JJ l (gM ⟨#[]⟩);rw[ax hm];omega
theorem Ko:∀l:List bL,((l.map (·.2)).filter full).length<=totalBytes l
 |[]=>ai _
 |x::l=>by
  have ih:=Ko l
  have e:totalBytes (x::l)=x.2.size+totalBytes l:=by
   show(if (fun _:Lit=>false) (jF x.1)=true then 0 else x.2.size)+_=_;rfl
  rw[e,mD]
  by_cases hc:full x.2=true
  ·rw[yo hc,aS];have:=fC hc;omega
  rw[yj hc];omega
theorem DU:∀{l:List bL},qb l->∀x∈l,fM l x.1=some x.2
 |[],_,x,hx=>by cases hx
 |y::l,h,x,hx=>by
  have h':=oO.1 h;unfold fM
  rcases aV.1 hx with rfl|hx
  ·rw[aD rfl]
  rw[ax (Ff (h'.1 x hx))];exact DU h'.2 x hx
def BJ(r:bS):List ah:=(r.seen.map (·.1)).map fun x=>(dG r x).getD ⟨#[]⟩
variable {r:bS}
theorem RX(h:qb r.seen):BJ r=r.seen.map (·.2):=by
 unfold BJ;rw[List.map_map]
 refine qR fun x hx=>?_
 show(dG r x.1).getD _=_;rw[lY,DU h x hx];rfl
theorem WM(h:qb r.seen)(ht:totalBytes r.seen<=65536)(l:List ah)(j:Nat):(Fh l ((BJ r).take j)).length<=l.length+65537:=by
 have h1:=OG ((BJ r).take j) l
 have h2:(((BJ r).take j).filter full).length<=((BJ r).filter full).length:=(List.take_sublist j _).filter full|>.length_le
 have h3:=Ko r.seen;rw[RX h] at h1 h2;rw[RX h]
 split at h1<;>omega
variable {cs:List ah}{j:Nat}
theorem WN{c:ah}(h:cs[j]?=some c):Fh l (cs.take (j+1))=EB (Fh l (cs.take j)) (gM c):=by
 unfold Fh;rw[dN,h,yX];rfl
section
open Go.RowKit Go.Maps
theorem Zd(w:aj)(B:Nat)(h:B<=w.heap.size):(w.alloc (.cells #[] 9)).ownsRow B 9 1 (.slice (some ⟨w.heap.size,0,none⟩) 0 0) 0 []:=⟨rfl,aL ⟨w.heap.size,0,#[],rfl,h,aW _ _ _ rfl,ai _,aN _,rfl,rfl⟩⟩
structure sM(w0:aj)(A:Nat->Nat)(a:Nat->Addr)(t:Nat->ah)(left fb wb:Nat)(r:bS)(v:KV)(w:aj)(n:Nat)(A':Nat->Nat)(v':KV)(wr:aj):Prop where
 kw:KW w0 A' a t left fb wb r v' wr
 hA:∀k,k<w.heap.size->A' k=A k
 turns:aQ (KF A) w wr
 x:v'.x=v.x
 vt:v'.v 2=v.v 2
 ts:v'.l 2=v.l 2
 len:(v'.l 3).length=(v'.l 4).length
 few:(v'.l 4).length<=n
variable {w0 w wr w2:aj}{A A':Nat->Nat}{a:Nat->Addr}{t:Nat->ah}{left fb wb n:Nat}{v v':KV}
theorem sM.after(h:sM w0 A a t left fb wb r v w n A' v' wr)(hb:nW A' a t left fb r wr w2 A'):sM w0 A a t left fb wb r v w n A' v' w2:=
 ⟨h.kw.keep hb.1 (fun _ _=>rfl) hb.2.2,h.hA,xV h.hA h.turns (hb.2.2.mono (fun _ e=>aG e)),h.x,h.vt,h.ts,h.len,h.few⟩
theorem sM.below(h:sM w0 A a t left fb wb r v w n A' v' wr)(hb:Below wr.heap.size wr w2):sM w0 A a t left fb wb r v w n A' v' w2:=
 ⟨h.kw.below hb,h.hA,h.turns.trans (aQ.of_below (fun _=>False) hb) (fun _ q=>q.elim),h.x,h.vt,h.ts,h.len,h.few⟩
variable {e:Ending}
theorem sM.sum{y:ah}(h:sM w0 A a t left fb wb r v w n A' v' wr)(hs:aaZ w0 A' a t left fb wb r v' y wr e w2):e=.returned (.string (gM y))/\∃A2 v2,sM w0 A a t left fb wb r v w (n+1) A2 v2 w2/\v2.l 4=EB (v'.l 4) (gM y)/\(∀k,k<wr.heap.size->A2 k=A' k)/\aQ (KF A') wr w2:=by
 obtain⟨e1,v2,⟨A2,h1,h2,h3⟩,h4,h5,h6,h7,h8⟩:=hs;refine⟨e1,A2,v2,⟨h1,fun k hk=>(h2 k (ay hk h.turns.size)).trans (h.hA k hk),xV h.hA h.turns h3,h4.trans h.x,h5.trans h.vt,h6.trans h.ts,h7,?_⟩,h8,h2,h3⟩;rw[h8];exact aA (JJ _ _) (by have:=h.few;omega)
theorem sM.more{m:Nat}(h:sM w0 A a t left fb wb r v w n A' v' wr)(hm:(v'.l 4).length<=m):sM w0 A a t left fb wb r v w m A' v' wr:={h with few:=hm}
def XG(w0:aj)(A:Nat->Nat)(a:Nat->Addr)(t:Nat->ah)(left fb wb:Nat)(r:bS)(v:KV)(w:aj)(e:Ending)(w':aj):Prop:=e=.returned (.tuple #[])/\∃A' v',sM w0 A a t left fb wb r v w ((v.l 4).length+1400000) A' v' w'
variable {cap:Nat}
theorem YV{ao:Option Addr}{L:Nat}{es:List dm}{e0:dm}{cm:ah}(h:nZ w (.slice ao L cap) es cs)(he:es[j]?=some e0)(hcm:cs[j]?=some cm):∃g o kz nI cI lH nM cM,ao=some ⟨g,o,none⟩/\w.cell? ⟨g,o+j*6+1,none⟩=some (.slice kz nI cI)/\w.cell? ⟨g,o+j*6+2,none⟩=some (.slice lH nM cM)/\w.cell? ⟨g,o+j*6+5,none⟩=some (.string cm)/\bG w (.slice kz nI cI) e0.ins/\bG w (.slice lH nM cM) e0.impl:=by
 obtain⟨Bl,cap',hv,hrow⟩:=h;injection hv with e1 e2 e3;subst e1 e3;have hj:=(aJ.1 he).1
 rcases hrow with q|⟨g,o,rfl,hcells⟩
 ·rw[q] at hj;simp at hj
 obtain⟨vo,vi,vm,vr,⟨d0,d1,d2,d3,d4,d5⟩,UL,MG,tm',UN⟩:=hcells j e0 cm he hcm
 obtain⟨kz,nI,cI,MC⟩:∃ao n c,vi=.slice ao n c:=by obtain⟨ao,cap,e,_⟩:=MG;exact⟨ao,_,cap,e⟩
 obtain⟨lH,nM,cM,Wj⟩:∃ao n c,vm=.slice ao n c:=by obtain⟨ao,cap,e,_⟩:=tm';exact⟨ao,_,cap,e⟩
 subst MC Wj;exact⟨g,o,kz,nI,cI,lH,nM,cM,rfl,d1,d2,d5,MG,tm'⟩
theorem Oq(h:KW w0 A a t left fb wb r v w)(hn:(v.l 3).length=(v.l 4).length)(hl:(v.l 4).length<=7000000000000):
  Calls Tryz.prog 30 #[.pointer (some ⟨wb,0,none⟩)] w (XG w0 A a t left fb wb r v w):=by
 have HK:=aY h;have HN:=aY hn;have HL:=aY hl
 have c0:w.cell? ⟨wb,0,none⟩=some (.pointer (some ⟨fb,0,none⟩)):=by rw[bZ h.row];rfl
 have Vo:=aY (KI h.base)
 have HI:Hid (qb r.seen/\totalBytes r.seen<=65536/\r.seen.length<=900000000000/\su r.seen):=by
  obtain⟨c,d,hc,_,hI⟩:=h.base.files;exact⟨hI.sorted,hI.total,by have:=hI.Jq;omega,hI.Cv⟩
 clear h hn hl
 go_enter Tryz.func30,Tryz.ntmps30
 go_wp2_with fail
 refine Vo.out.mono ?_;rintro e1 w1 ⟨g,hg,hgl,hg0,rfl,hcell,hbe⟩;have Pq:Hid (sM w0 A a t left fb wb r v w (v.l 4).length A v w1):=⟨HK.out.keep hbe.1 hbe.2.1 hbe.2.2,fun _ _=>rfl,hbe.2.2.mono (fun _ e=>aG e),rfl,rfl,rfl,HN.out,ai _⟩;have HC:=aP (aK hgl (aK hg0 hcell));clear hg hgl hg0 hcell hbe Vo c0;generalize hF:r.seen.length=F at*;have HF:=aY hF;clear hF
 have f0:(F:Int)<=900000000000:=by have:=HI.out.2.2.1;omega
 go_wp2_with fail
 go_loopw [3] (fun i wr=>∃(j:Nat) (A':Nat->Nat) (v':KV),i=.int .i64 j/\j<=F/\sM w0 A a t left fb wb r v w ((v.l 4).length+65537) A' v' wr/\v'.l 4=Fh (v.l 4) ((BJ r).take j)/\(∀k,k<w1.heap.size->A' k=A k)/\aQ (KF A) w1 wr) (fun i _=>F-(intOf i).toNat)
 case atStart=>exact⟨0,A,v,rfl,aN _,Pq.out.more (by omega),rfl,fun _ _=>rfl,aQ.refl _ _⟩
 case round=>
  obtain⟨j,A',v',rfl,hj,hnt,hv4,hA1,ht1⟩:=hrel;have GY:=aY hnt;have HV4:=aY hv4;have HT1:=aP (aK hA1 ht1);clear hnt hv4 hA1 ht1
  have j0:(0:Int)<=(j:Int):=by omega
  by_cases hlt:j<F
  ·have j1:(j:Int)<(F:Int):=by omega
   obtain⟨x,hx⟩:∃x,r.seen[j]?=some x:=⟨r.seen[j]'(by have:=HF.out;omega),by simp⟩
   have hxn:(r.seen.map (·.1))[j]?=some x.1:=by rw[dM,hx];rfl
   have HX:Hid ((BJ r)[j]?=some ((dG r x.1).getD ⟨#[]⟩)/\x.1.size<=65536/\((dG r x.1).getD ⟨#[]⟩).size<=65536):=by
    refine⟨by unfold BJ;rw[dM,hxn];rfl,HI.out.2.2.2 x (aO hx),?_⟩;rw[lY,DU HI.out.1 x (aO hx),bY];have h1:=Ob r.seen j;have h2:=HI.out.2.1;unfold jU at h1;rw[cZ,hx] at h1;exact aA h1 h2
   have dJ:Hid (wr.drew.cell? ⟨wb,0,none⟩=some (.pointer (some ⟨fb,0,none⟩))/\wr.drew.cell? ⟨g,j,none⟩=some (.string x.1)):=by
    refine⟨?_,?_⟩
    ·have h:wr.drew.heap[wb]?=_:=GY.out.kw.row;rw[bZ h];rfl
    have h:wr.drew.heap[g]?=w1.heap[g]?:=HT1.out.2.block g HC.out.1 (by unfold KF;rw[HC.out.2.1];omega);rw[aB (w:=w1) (a:=⟨g,j,none⟩) h];exact HC.out.2.2 j x.1 hxn
   have hb5:Below wr.heap.size wr wr.drew:=(au _ _).drew;have Vp:=aY (GY.out.below hb5);have CO:=aY (xD Vp.out.kw.base x.1 (by have:=HX.out.2.1;omega));clear hx hxn hb5;obtain⟨nm,d0⟩:=x;simp only at HX dJ CO;generalize hD:(dG r nm).getD ⟨#[]⟩=D at*;generalize hE:(if (dG r nm).isSome=true then (0:Int) else 2)=E at*
   go_wp2_with fail
   refine dB (S:=fun w'=>w'.cell? ⟨wb,0,none⟩=some (.pointer (some ⟨fb,0,none⟩))/\w'.cell? ⟨g,j,none⟩=some (.string nm)) (by kernel_rfl) ?_;change wpAnyH _ _ _ _ _ _ _ _ (World.drew _);refine u3 0 (.pointer (some ⟨wb,0,none⟩)) rfl dJ.out ?_<|u3 1 (.pointer (some ⟨wb,0,none⟩)) rfl dJ.out ?_<|u3 2 (.pointer (some ⟨wb,0,none⟩)) rfl dJ.out ?_<|u3 3 (.pointer (some ⟨fb,0,none⟩)) rfl dJ.out ?_<|u3 4 (.slice (some ⟨g,0,none⟩) F F) rfl dJ.out ?_<|u3 5 (.int .i64 (j:Nat)) rfl dJ.out ?_<|u3 6 (.pointer (some ⟨g,j,none⟩)) rfl dJ.out ?_<|u3 7 (.string nm) rfl dJ.out ?_ ?_;(iterate 8 ·exact⟨by kernel_rfl,kI,by rintro w' ⟨q1,q2⟩;go_simp⟩)
   refine rH 8 rfl (by kernel_rfl) fun K hK=>?_
   go_simp;refine CO.out.mono ?_;rintro e5 w5 ⟨rfl,hb5⟩;have GV:=aY (Vp.out.after hb5);have HT5:Hid (aQ (KF A') wr w5):=(aQ.of_below (KF A') ((au wr.heap.size wr).drew)).trans hb5.2.2 (fun _ e=>aG (aG e))
   have Je:Hid (w5.cell? ⟨wb,0,none⟩=some (.pointer (some ⟨fb,0,none⟩))/\w5.cell? ⟨g,j,none⟩=some (.string nm)):=by
    refine⟨?_,?_⟩
    ·rw[bZ GV.out.kw.row];rfl
    have h:w5.heap[g]?=wr.heap[g]?:=HT5.out.block g (ay HC.out.1 HT1.out.2.size) (by unfold KF;rw[HT1.out.1 g HC.out.1,HC.out.2.1];omega);rw[aB (w:=wr) (a:=⟨g,j,none⟩) h];exact dJ.out.2
   refine hK.out _ _ Je.out (fun _=>?_);clear hK K hb5 CO Vp dJ;have dJ:=Je;refine u3 9 (.tuple #[.string D,.int .i64 E]) rfl dJ.out ?_<|u3 10 (.string D) rfl dJ.out ?_<|u3 11 (.int .i64 E) rfl dJ.out ?_<|u3 12 (.string D) rfl dJ.out ?_ ?_;(iterate 4 ·exact⟨by kernel_rfl,kI,by rintro w' ⟨q1,q2⟩;go_simp⟩)
   refine rH 13 rfl (by kernel_rfl) fun K hK=>?_
   go_simp;refine hK.out _ _ dJ.out (fun _=>?_);clear hK K;refine eF (by kernel_rfl) ?_ _;have HSU:=aY (Em GV.out.kw GV.out.len (by have h1:=GV.out.few;have h2:=HL.out;omega) D (by have:=HX.out.2.2;omega));clear Je dJ
   go_wp2_with fail
   refine HSU.out.mono ?_;intro e6 w6 hs6;obtain⟨he6,A6,v6,hn6,hl6,hA6,ht6⟩:=GV.out.sum hs6;subst he6
   have IE:Hid (sM w0 A a t left fb wb r v w ((v.l 4).length+65537) A6 v6 w6/\v6.l 4=Fh (v.l 4) ((BJ r).take (j+1))/\(∀k,k<w1.heap.size->A6 k=A k)/\aQ (KF A) w1 w6):=by
    have hq:v6.l 4=Fh (v.l 4) ((BJ r).take (j+1)):=by rw[WN HX.out.1,<-HV4.out];exact hl6
    refine⟨hn6.more (by rw[hq];exact WM HI.out.1 HI.out.2.1 _ _),hq,fun k hk=>(hA6 k (ay hk (aA HT1.out.2.size HT5.out.size))).trans (HT1.out.1 k hk),xV HT1.out.1 HT1.out.2 (xV (fun _ _=>rfl) HT5.out ht6)⟩
   clear hs6 hn6 hl6 hA6 ht6 HSU GV GY HT5
   go_wp2_with fail
   exact⟨⟨j+1,A6,v6,by go_num,by omega,IE.out.1,IE.out.2.1,IE.out.2.2.1,IE.out.2.2.2⟩,by simp[intOf];omega⟩
  obtain rfl:j=F:=by omega
  have aiC:=GY.out;clear Pq HK HC HV4 HT1 GY HI HF;have GY:=aY aiC;clear aiC
  have d1:wr.cell? ⟨wb,1,none⟩=some (.string v.x):=by rw[bZ GY.out.kw.row,<-GY.out.x];rfl
  have Jd:=aY (Lf v.x a t wr GY.out.kw.base.gl GY.out.kw.base.env.pO (by rw[<-GY.out.x];exact GY.out.kw.text))
  go_wp2_with fail
  refine Jd.out.mono ?_;rintro e w6 ⟨hend,hb6⟩;have IE:=aY (GY.out.below hb6);clear Jd hb6 d1
  cases hr:jV v.x with
  |error bk=>
   rw[hr] at hend;have he:e=.returned (.tuple #[.pointer none,.int .i64 ((BD bk.1:Nat)+1),.int .i64 (bk.2:Nat)]):=hend;subst he;clear hend hr
   have hz:¬(((BD bk.1:Nat):Int)+1=0):=by omega
   generalize ((BD bk.1:Nat):Int)+1=z at*;generalize ((bk.2:Nat):Int)=ln at*
   go_wp2
   first|go_end0|refine bP (eG rfl _ _ _) rfl ?_
   exact⟨rfl,_,_,IE.out.more (by have:=IE.out.few;omega)⟩
  |ok Sc=>
   rw[hr] at hend;obtain⟨S,cs⟩:=Sc;obtain⟨mb,rfl,hk,hso⟩:=hend
   have afZ:∀e∈S.bB,e.outs.length<=10000/\e.ins.length<=10000/\e.impl.length<=10000/\e.ord.length<=10000:=fun e he=>by
    have h1:=hso.edge e he;exact⟨by have:=h1.2.2.1;omega,by have:=h1.2.2.2.1;omega,by have:=h1.2.2.2.2.2.2.1;omega,by have:=h1.2.2.2.2.2.2.2;omega⟩
   have HFT:=aY (Dk hr hso);have HED:=Xb hk.now hso.bB afZ;have he0:S.bB.length<=64:=hso.bB;clear hk hso hr afZ
   go_wp2_with fail
   refine HED.mono ?_;rintro e w7 ⟨vl,c,ds,rfl,hea,Jk⟩;obtain⟨aol,aa6,hvl,_,_⟩:=bq hea.row;subst hvl;have HER:=aP hea.stays;have HN7:=aY (IE.out.below Jk);have HZ7:=aP IE.out.kw.base.above;clear HED hea Jk IE GY;generalize hEL:S.bB.length=EL at*;have HEL:=aY hEL;clear hEL
   have el0:(EL:Int)<=64:=by omega
   go_wp2_with fail
   go_loopw [10] (fun i wr=>∃(q:Nat) (A8:Nat->Nat) (v8:KV),i=.int .i64 q/\q<=EL/\sM w0 A a t left fb wb r v w ((v.l 4).length+65537+q*20001) A8 v8 wr/\(∀k,k<w7.heap.size->A8 k=A' k)/\aQ (KF A') w7 wr) (fun i _=>EL-(intOf i).toNat)
   case atStart=>exact⟨0,A',v',rfl,aN _,HN7.out,fun _ _=>rfl,aQ.refl _ _⟩
   case round=>
    obtain⟨p,A8,v8,rfl,hp,hnt,Qm,Ku⟩:=hrel;have GY:=aY hnt;have Vd:=aP (aK Qm Ku);have HW:Hid (nZ wr (.slice aol EL aa6) S.bB cs):=HER.out wr Ku.size (fun k h1 h2=>Ku.block k h2 (by unfold KF;rw[HZ7.out k h1];omega));clear hnt Qm Ku
    have p0:(0:Int)<=(p:Int):=by omega
    by_cases hlt:p<EL
    ·have p1:(p:Int)<(EL:Int):=by omega
     obtain⟨e0,he0⟩:∃e,S.bB[p]?=some e:=⟨S.bB[p]'(by rw[HEL.out];exact hlt),by simp⟩;obtain⟨cm,hcm⟩:∃c,cs[p]?=some c:=⟨cs[p]'(by rw[HFT.out.len,HEL.out];exact hlt),by simp⟩;have HFE:=aY (HFT.out.fit p e0 cm he0 hcm).1;obtain⟨g2,o2,kz,nI,cI,lH,nM,cM,rfl,c1,c2,c5,MG,tm'⟩:=YV HW.out he0 hcm;have CQ:=aP (aK MG tm');clear MG tm' he0 hcm HW
     go_wp2_with fail
     refine dB (S:=fun w'=>Below wr.heap.size wr w') (by kernel_rfl) ?_;change wpAnyH _ _ _ _ _ _ _ _ (World.drew _);obtain⟨wd,hwd⟩:∃wd,wd=wr.drew:=⟨_,rfl⟩;rw[<-hwd]
     have gP:Hid (Below wr.heap.size wr wd):=by rw[hwd];exact(au _ _).drew
     clear hwd
     have HQ:Hid (∀w',Below wr.heap.size wr w'->w'.cell? ⟨g2,o2+p*6+1,none⟩=some (.slice kz nI cI)/\w'.cell? ⟨g2,o2+p*6+2,none⟩=some (.slice lH nM cM)):=fun w' h=>⟨(h.cell (p:=⟨g2,o2+p*6+1,none⟩) (aC c1)).trans c1,(h.cell (p:=⟨g2,o2+p*6+2,none⟩) (aC c2)).trans c2⟩
     refine uQ 1 (.slice (some ⟨g2,o2,none⟩) EL aa6) rfl gP.out HQ.out ?_<|uQ 2 (.int .i64 (p:Nat)) rfl gP.out HQ.out ?_<|uQ 3 (.pointer (some ⟨g2,o2+p*6,none⟩)) rfl gP.out HQ.out ?_<|uQ 4 (.pointer (some ⟨g2,o2+p*6+1,none⟩)) rfl gP.out HQ.out ?_<|uQ 5 (.slice kz nI cI) rfl gP.out HQ.out ?_<|uQ 7 (.slice (some ⟨g2,o2,none⟩) EL aa6) rfl gP.out HQ.out ?_<|uQ 8 (.int .i64 (p:Nat)) rfl gP.out HQ.out ?_<|uQ 9 (.pointer (some ⟨g2,o2+p*6,none⟩)) rfl gP.out HQ.out ?_<|uQ 10 (.pointer (some ⟨g2,o2+p*6+2,none⟩)) rfl gP.out HQ.out ?_<|uQ 11 (.slice lH nM cM) rfl gP.out HQ.out ?_ ?_;(iterate 10 ·exact⟨by kernel_rfl,kI,by rintro w' ⟨q1,q2⟩;go_simp⟩)
     refine rH 0 rfl (by kernel_rfl) fun K hK=>?_
     go_simp;refine hK.out _ _ (gP.out.alloc gP.out.size _) (fun _=>?_);clear hK K;obtain⟨x1,hx1⟩:∃x,x=wd.alloc (.cells #[] 9):=⟨_,rfl⟩;rw[<-hx1]
     have HA1:Hid (x1.ownsRow wr.heap.size 9 1 (.slice (some ⟨wd.heap.size,0,none⟩) 0 0) 0 []):=by rw[hx1];exact Zd wd _ gP.out.size
     have HX1:Hid (Below wr.heap.size wr x1):=by rw[hx1];exact gP.out.alloc gP.out.size _
     clear hx1 gP
     refine rH 6 rfl (by kernel_rfl) fun K hK=>?_
     refine yJ rfl (.tmp 66) (.tmp 71) rfl wr.heap.size _ 0 [] rfl HA1.out _ e0.ins rfl (CQ.out.1.gY HX1.out) (by have:=HFE.out.ins;omega) HX1.out.size ?_;intro aoA cpA x2 h2 hg2 afR;have HA2:=aP h2;have HX2:Hid (Below wr.heap.size wr x2):=HX1.out.grown hg2 HX1.out.size (fun k hk=>(bA HA1.out k hk).1);refine hK.out _ _ HX2.out (fun _=>?_);clear hK K h2 hg2 afR HA1 HX1
     refine rH 12 rfl (by kernel_rfl) fun K hK=>?_
     refine yJ rfl (.tmp 72) (.tmp 77) rfl wr.heap.size _ (0+e0.ins.length) ([]++e0.ins.map Value.string) rfl HA2.out _ e0.impl rfl (CQ.out.2.gY HX2.out) (by have:=HFE.out.ins;have:=HFE.out.impl;omega) HX2.out.size ?_;intro aoB cpB x3 h2 hg2 afR;have HX3:Hid (Below wr.heap.size wr x3):=HX2.out.grown hg2 HX2.out.size (fun k hk=>(bA HA2.out k hk).1);obtain⟨DL,hDL⟩:∃m,m=0+e0.ins.length+e0.impl.length:=⟨_,rfl⟩;rw[<-hDL] at h2
     have Rm:Hid ((fK e0).length=DL/\DL<=20000):=by
      have h3:(fK e0).length=DL:=by unfold fK;rw[hDL,aF];omega
      exact⟨h3,by have:=HFE.out.ins;have:=HFE.out.impl;omega⟩
     have Nw:Hid (x3.ownsRow wr.heap.size 9 1 (.slice aoB DL cpB) (fK e0).length ((fK e0).map Value.string)):=by
      rw[xw,<-iC] at h2;rw[Rm.out.1];exact h2
     refine hK.out _ _ HX3.out (fun _=>?_);rw[<-hDL];clear hK K h2 hg2 afR HA2 HX2 hDL
     refine rH 13 rfl (by kernel_rfl) fun K hK=>?_
     go_simp;refine hK.out _ _ HX3.out (fun _=>?_);clear hK K;refine eF (by kernel_rfl) ?_ _;have HN3:=aY (GY.out.below HX3.out);have HZ3:=aP GY.out.kw.base.above;have c53:x3.cell? ⟨g2,o2+p*6+5,none⟩=some (.string cm):=(HX3.out.cell (p:=⟨g2,o2+p*6+5,none⟩) (aC c5)).trans c5;have hcz:=HFE.out.cmd
     have hz1:¬9223372036854775807<cm.size+1:=by omega
     have d0:(DL:Int)<=20000:=by have:=Rm.out.2;omega
     have HT3:Hid ((∀k,k<w7.heap.size->A8 k=A' k)/\aQ (KF A') w7 x3):=⟨Vd.out.1,Vd.out.2.trans (aQ.of_below (fun _=>False) HX3.out) (fun _ q=>q.elim)⟩;clear c1 c2 c5 GY HX3 Vd;generalize wr.heap.size=WQ at HZ3 Nw
     go_wp2_with fail
     have HCZ:Hid ((cm++⟨#[0]⟩).size<=1048577):=by show _<=_;rw[aH];show cm.size+1<=_;omega
     generalize hT0:cm++⟨#[0]⟩=T0 at*;clear hT0 c53 hz1 hcz
     go_loopw [12,13] (fun T i wr2=>∃(q:Nat) (Tq:ah) (A9:Nat->Nat) (v9:KV),T=.string Tq/\i=.int .i64 q/\q<=DL/\Tq.size<=1048577+q*65/\sM w0 A a t left fb wb r v w ((v.l 4).length+65537+p*20001+q) A9 v9 wr2/\(∀k,k<x3.heap.size->A9 k=A8 k)/\aQ (KF A8) x3 wr2) (fun _ i _=>DL-(intOf i).toNat)
     case atStart=>exact⟨0,T0,A8,v8,rfl,rfl,aN _,HCZ.out,HN3.out,fun _ _=>rfl,aQ.refl _ _⟩
     case round=>
      obtain⟨q,Tq,A9,v9,rfl,rfl,hq,hTq,hnt,hA9,ht9⟩:=hrel;have HNQ:=aY hnt;have Pt:=aP (aK hA9 ht9);clear hnt hA9 ht9
      have q0:(0:Int)<=(q:Int):=by omega
      by_cases hlq:q<DL
      ·have q1:(q:Int)<(DL:Int):=by omega
       obtain⟨nm,hnm⟩:∃x,(fK e0)[q]?=some x:=⟨(fK e0)[q]'(by rw[Rm.out.1];exact hlq),by simp⟩;have hrow:=Nw.out;rw[Rm.out.1] at hrow;obtain⟨_,_,hf,_,hgB⟩:=bq hrow;obtain⟨gB,hgB⟩:=hgB (by omega);injection hf with f1 f2 f3;subst f1;subst hgB;have hcB:=(dO hrow q (.string nm) (by rw[dM,hnm];rfl)).1;have HGB:Hid (WQ<=gB/\gB<x3.heap.size/\x3.cell? ⟨gB,q,none⟩=some (.string nm)/\nm.size<=32):=⟨(bA hrow gB rfl).1,(bA hrow gB rfl).2,hcB,HFE.out.inp nm (aO hnm)⟩;clear hrow f2 f3 hcB hnm
       have Pp:Hid (((dG r nm).getD ⟨#[]⟩).size<=65536):=by
        obtain⟨c,d,_,_,hI⟩:=HNQ.out.kw.base.files;rw[lY]
        cases hfl:fM r.seen nm with
        |none=>exact aN _
        |some dd=>
         have h1:=pQ r.seen nm;rw[oJ,hfl] at h1;exact aA h1 hI.total
       have dJ:Hid (wr.drew.cell? ⟨wb,0,none⟩=some (.pointer (some ⟨fb,0,none⟩))/\wr.drew.cell? ⟨gB,q,none⟩=some (.string nm)):=by
        refine⟨?_,?_⟩
        ·have h:wr.drew.heap[wb]?=_:=HNQ.out.kw.row;rw[bZ h];rfl
        have h:wr.drew.heap[gB]?=x3.heap[gB]?:=Pt.out.2.block gB HGB.out.2.1 (by unfold KF;rw[HZ3.out gB HGB.out.1];omega);rw[aB (w:=x3) (a:=⟨gB,q,none⟩) h];exact HGB.out.2.2.1
       have Vp:=aY (HNQ.out.below (au wr.heap.size wr).drew);have CO:=aY (xD Vp.out.kw.base nm (by have:=HGB.out.2.2.2;omega));generalize hD:(dG r nm).getD ⟨#[]⟩=D at*;generalize hE:(if (dG r nm).isSome=true then (0:Int) else 2)=E at*
       go_wp2_with fail
       refine dB (S:=fun w'=>w'.cell? ⟨wb,0,none⟩=some (.pointer (some ⟨fb,0,none⟩))/\w'.cell? ⟨gB,q,none⟩=some (.string nm)) (by kernel_rfl) ?_;change wpAnyH _ _ _ _ _ _ _ _ (World.drew _);refine u3 0 (.pointer (some ⟨wb,0,none⟩)) rfl dJ.out ?_<|u3 1 (.pointer (some ⟨wb,0,none⟩)) rfl dJ.out ?_<|u3 2 (.pointer (some ⟨wb,0,none⟩)) rfl dJ.out ?_<|u3 3 (.pointer (some ⟨fb,0,none⟩)) rfl dJ.out ?_<|u3 4 (.slice (some ⟨gB,0,none⟩) DL cpB) rfl dJ.out ?_<|u3 5 (.int .i64 (q:Nat)) rfl dJ.out ?_<|u3 6 (.pointer (some ⟨gB,q,none⟩)) rfl dJ.out ?_<|u3 7 (.string nm) rfl dJ.out ?_ ?_;(iterate 8 ·exact⟨by kernel_rfl,kI,by rintro w' ⟨q1,q2⟩;go_simp⟩)
       refine rH 8 rfl (by kernel_rfl) fun K hK=>?_
       go_simp;refine CO.out.mono ?_;rintro e5 w5 ⟨rfl,hb5⟩;have GV:=aY (Vp.out.after hb5);have HT5:Hid (aQ (KF A9) wr w5):=(aQ.of_below (KF A9) ((au wr.heap.size wr).drew)).trans hb5.2.2 (fun _ e=>aG (aG e));have ac6:=aP (xV Pt.out.1 Pt.out.2 HT5.out)
       have Je:Hid (w5.cell? ⟨wb,0,none⟩=some (.pointer (some ⟨fb,0,none⟩))/\w5.cell? ⟨gB,q,none⟩=some (.string nm)):=by
        refine⟨?_,?_⟩
        ·rw[bZ GV.out.kw.row];rfl
        have h:w5.heap[gB]?=x3.heap[gB]?:=ac6.out.block gB HGB.out.2.1 (by unfold KF;rw[HZ3.out gB HGB.out.1];omega);rw[aB (w:=x3) (a:=⟨gB,q,none⟩) h];exact HGB.out.2.2.1
       refine hK.out _ _ Je.out (fun _=>?_);clear hK K hb5 CO Vp dJ;have dJ:=Je;refine u3 9 (.tuple #[.string D,.int .i64 E]) rfl dJ.out ?_<|u3 10 (.string D) rfl dJ.out ?_<|u3 11 (.int .i64 E) rfl dJ.out ?_<|u3 12 (.string D) rfl dJ.out ?_ ?_;(iterate 4 ·exact⟨by kernel_rfl,kI,by rintro w' ⟨q1,q2⟩;go_simp⟩)
       refine rH 13 rfl (by kernel_rfl) fun K hK=>?_
       go_simp;refine hK.out _ _ dJ.out (fun _=>?_);clear hK K;refine eF (by kernel_rfl) ?_ _;have HSU:=aY (Em GV.out.kw GV.out.len (by have h1:=GV.out.few;have h2:=HL.out;omega) D (by have:=Pp.out;omega));clear Je dJ
       go_wp2_with fail
       refine HSU.out.mono ?_;intro e6 Xv hs6;obtain⟨he6,A6,v6,hn6,hl6,hA6,ht6⟩:=GV.out.sum hs6;subst he6;have IE:Hid (sM w0 A a t left fb wb r v w ((v.l 4).length+65537+p*20001+(q+1)) A6 v6 Xv/\(∀k,k<x3.heap.size->A6 k=A8 k)/\aQ (KF A8) x3 Xv):=⟨hn6,fun k hk=>(hA6 k (ay hk ac6.out.size)).trans (Pt.out.1 k hk),xV Pt.out.1 ac6.out ht6⟩
       have cB6:Xv.cell? ⟨gB,q,none⟩=some (.string nm):=by
        have h:Xv.heap[gB]?=x3.heap[gB]?:=IE.out.2.2.block gB HGB.out.2.1 (by unfold KF;rw[HZ3.out gB HGB.out.1];omega);rw[aB (w:=x3) (a:=⟨gB,q,none⟩) h];exact HGB.out.2.2.1
       have hs1:nm.size<=32:=HGB.out.2.2.2;have hs2:(gM D).size=32:=kN D;clear hs6 hn6 hl6 hA6 ht6 HSU GV HNQ HT5 ac6;generalize gM D=sd at*
       have hz1:¬9223372036854775807<Tq.size+nm.size:=by omega
       have hz2:¬9223372036854775807<Tq.size+nm.size+1:=by omega
       have hz3:¬9223372036854775807<Tq.size+nm.size+1+sd.size:=by omega
       go_wp2_with fail
       exact⟨⟨q+1,_,A6,v6,rfl,by go_num,by omega,by simp only[aH];show Tq.size+nm.size+1+sd.size<=_;omega,IE.out.1,IE.out.2.1,IE.out.2.2⟩,by simp[intOf];omega⟩
      obtain rfl:q=DL:=by omega
      have HSU:=aY (Em HNQ.out.kw HNQ.out.len (by have h1:=HNQ.out.few;have h2:=HL.out;have:=Rm.out.2;omega) Tq (by have:=Rm.out.2;omega))
      go_wp2_with fail
      refine HSU.out.mono ?_;intro e6 Xv hs6;obtain⟨he6,A6,v6,hn6,hl6,hA6,ht6⟩:=HNQ.out.sum hs6;subst he6;have IE:Hid (sM w0 A a t left fb wb r v w ((v.l 4).length+65537+(p+1)*20001) A6 v6 Xv/\(∀k,k<w7.heap.size->A6 k=A' k)/\aQ (KF A') w7 Xv):=⟨hn6.more (by have:=hn6.few;have:=Rm.out.2;omega),fun k hk=>(hA6 k (ay hk (aA HT3.out.2.size Pt.out.2.size))).trans ((Pt.out.1 k (ay hk HT3.out.2.size)).trans (HT3.out.1 k hk)),xV HT3.out.1 HT3.out.2 (xV Pt.out.1 Pt.out.2 ht6)⟩;clear hs6 hn6 hl6 hA6 ht6 HSU HNQ Pt
      go_wp2_with fail
      exact⟨⟨p+1,A6,v6,by go_num,by omega,IE.out.1,IE.out.2.1,IE.out.2.2⟩,by simp[intOf];omega⟩
    obtain rfl:p=EL:=by omega
    go_wp2_with fail
    first|go_end0|refine bP (eG rfl _ _ _) rfl ?_
    exact⟨rfl,_,_,GY.out.more (by have:=GY.out.few;omega)⟩
structure zJ(fb wb ob:Nat)(ya yb:Int)(ys yt x:ah)(vt:Value)(w:aj):Prop where
 b0:w.cell? ⟨wb,0,none⟩=some (.pointer (some ⟨fb,0,none⟩))
 b1:w.cell? ⟨wb,1,none⟩=some (.string x)
 b2:w.cell? ⟨wb,2,none⟩=some vt
 o1:w.cell? ⟨ob,1,none⟩=some (.int .i64 ya)
 o2:w.cell? ⟨ob,2,none⟩=some (.int .i64 yb)
 o3:w.cell? ⟨ob,3,none⟩=some (.string ys)
 o4:w.cell? ⟨ob,4,none⟩=some (.string yt)
structure wV(w0:aj)(A:Nat->Nat)(a:Nat->Addr)(t:Nat->ah)(left fb wb:Nat)(v:KV)(w:aj)(ob:Nat)(row:Array Value)(n:Nat)(r:bS)(A':Nat->Nat)(v':KV)(wr:aj):Prop where
 kw:KW w0 A' a t left fb wb r v' wr
 hA:∀k,k<w.heap.size->A' k=A k
 turns:aQ (KF A) w wr
 x:v'.x=v.x
 vt:v'.v 2=v.v 2
 ts:v'.l 2=v.l 2
 len:(v'.l 3).length=(v'.l 4).length
 few:(v'.l 4).length<=(v.l 4).length+n
 op:wr.heap[ob]?=some (.cells row 58 (0,0))
 cop:A' ob=0
theorem wV.start(h:KW w0 A a t left fb wb r v w)(hn:(v.l 3).length=(v.l 4).length)(row:Array Value):wV w0 A a t left fb wb v w w.heap.size row 0 r A v (w.alloc (.cells row 58)):=
 ⟨h.below ((au _ _).alloc (ai _) _),fun _ _=>rfl,aQ.of_below _ ((au _ _).alloc (ai _) _),rfl,rfl,rfl,hn,by omega,aW _ _ _ rfl,h.base.above _ (ai _)⟩
variable {ob:Nat}
theorem wV.cells{kd ya yb:Int}{ys yt:ah}(h:wV w0 A a t left fb wb v w ob #[.int .i64 kd,.int .i64 ya,.int .i64 yb,.string ys,.string yt] n r A' v' wr):zJ fb wb ob ya yb ys yt v.x (v.v 2) wr:=by
 have c:∀i,wr.cell? ⟨wb,i,none⟩=(#[.pointer (some ⟨fb,0,none⟩),.string v'.x,v'.v 2,v'.v 3,v'.v 4,.bool v'.vo]:Array Value)[i]?:=fun i=>bZ h.kw.row
 have d:∀i,wr.cell? ⟨ob,i,none⟩=(#[.int .i64 kd,.int .i64 ya,.int .i64 yb,.string ys,.string yt]:Array Value)[i]?:=fun i=>bZ h.op
 exact⟨c 0,by rw[<-h.x];exact c 1,by rw[<-h.vt];exact c 2,d 1,d 2,d 3,d 4⟩
variable {left':Nat}{row:Array Value}{r':bS}
theorem wV.base{A2:Nat->Nat}(h:wV w0 A a t left fb wb v w ob row n r A' v' wr)(hb:nW A' a t left' fb r' wr w2 A2):wV w0 A a t left' fb wb v w ob row n r' A2 v' w2:=
 ⟨h.kw.keep hb.1 hb.2.1 hb.2.2,fun k hk=>(hb.2.1 k (ay hk h.turns.size)).trans (h.hA k hk),xV h.hA h.turns (hb.2.2.mono (fun _ e=>aG e)),h.x,h.vt,h.ts,h.len,h.few,(hb.2.2.block ob (bI h.op) (by rw[h.cop];decide)).trans h.op,(hb.2.1 ob (bI h.op)).trans h.cop⟩
theorem wV.below(h:wV w0 A a t left fb wb v w ob row n r A' v' wr)(hb:Below wr.heap.size wr w2):wV w0 A a t left fb wb v w ob row n r A' v' w2:=
 h.base ⟨h.kw.base.below hb,fun _ _=>rfl,aQ.of_below _ hb⟩
theorem wV.note(h:wV w0 A a t left fb wb v w ob row n r A' v' wr)(hb:XG w0 A' a t left fb wb r v' wr e w2):e=.returned (.tuple #[])/\∃A2 v2,wV w0 A a t left fb wb v w ob row (n+1400000) r A2 v2 w2:=by
 obtain⟨he,A2,v2,q⟩:=hb
 have hf:(v2.l 4).length<=(v.l 4).length+(n+1400000):=by
  rw[<-Nat.add_assoc];exact aA q.few (Nat.add_le_add_right h.few _)
 have hlt:=bI h.op;have h2:w2.heap[ob]?=some (.cells row 58 (0,0)):=(q.turns.block ob hlt (by unfold KF;rw[h.cop];decide)).trans h.op;have h3:A2 ob=0:=(q.hA ob hlt).trans h.cop;have h4:aQ (KF A) w w2:=xV h.hA h.turns q.turns
 have h5:∀k,k<w.heap.size->A2 k=A k:=fun k hk=>(q.hA k (ay hk h.turns.size)).trans (h.hA k hk)
 exact⟨he,A2,v2,{kw:=q.kw,hA:=h5,turns:=h4,x:=q.x.trans h.x,vt:=q.vt.trans h.vt,ts:=q.ts.trans h.ts,len:=q.len,few:=hf,op:=h2,cop:=h3}⟩
def tV(w0:aj)(A:Nat->Nat)(a:Nat->Addr)(t:Nat->ah)(left fb wb:Nat)(v:KV)(w:aj)(e:Ending)(w':aj):Prop:=
 e=.returned (.tuple #[])/\∃r' v',zF w0 A a t left fb wb r' v' w w'/\(v'.l 3).length=(v'.l 4).length/\(v'.l 4).length<=(v.l 4).length+2800000/\(v'.l 2).length<=(v.l 2).length+1
theorem wV.done(h:wV w0 A a t left fb wb v w ob row n r A' v' wr)(hl:left'<=left)(hn:n<=2800000):tV w0 A a t left' fb wb v w (.returned (.tuple #[])) wr:=
 ⟨rfl,r,v',⟨A',h.kw.less hl,h.hA,h.turns⟩,h.len,by have:=h.few;omega,by rw[h.ts];omega⟩
theorem Zp(c:Int)(w:aj):Calls Tryz.prog 53 #[.int .i64 c,.int .i64 32] w fun e w'=>∃n:Int,n<=9223372036854775807/\e=.returned (.int .i64 n)/\w'=w:=by
 go_enter Tryz.func53,Tryz.ntmps53
 by_cases h:c<0
 all_goals
  go_wp2
  go_ret;refine⟨_,?_,rfl,rfl⟩
  first|omega|exact Int.le_trans (Int.le_of_lt (Int.tmod_lt_of_pos _ (by decide))) (by decide)
