import Derived.Test.YthhbpebihgjpjaaGreatDoorZ46
namespace Go.Proofs.YthhbpebihgjpjaaGreatDoor
set_option maxRecDepth 1000000
set_option maxHeartbeats 20000000
set_option linter.all false
section
open Go.RowKit
variable {w:ak}
theorem GL(ty:TypeId)(B:Nat)(v:Value)(n:Nat)(ds:List Value)(hown:w.ownsRow B 9 1 v n ds)(x:Value)(l:List ah)(hx:bL w x l)(hle:n+l.length<=100000000)(hb:B<=w.heap.size):∃Bo cap' w',(Builtin.append_ #[32,32] ty #[v,x]).run Tryz.prog w=.ok (.slice Bo (n+l.length) cap') w'/\w'.ownsRow B 9 1 (.slice Bo (n+l.length) cap') (n+l.length) (ds++l.map Value.string)/\w.grownBy w' v.ownBlock/\∀k,(Value.slice Bo (n+l.length) cap').ownBlock=some k->v.ownBlock=some k\/w.heap.size<=k:=by
 have hinf:(Tryz.prog.info? 9).map (fun i=>(i.size,i.bytes,i.zero))=some (1,16,some (.string ⟨#[]⟩)):=dD
 obtain⟨ti,hti,htj⟩:=bA.1 hinf;simp only[Prod.mk.injEq] at htj;obtain⟨ao,cap,rfl,hc,hh⟩:=hx
 have main:∀b o,ao=some ⟨b,o,none⟩->(∀k s,l[k]?=some s->w.cell? ⟨b,o+k,none⟩=some (.string s))->∃Bo cap' w',(Builtin.append_ #[32,32] ty #[v,.slice ao l.length cap]).run Tryz.prog w=.ok (.slice Bo (n+l.length) cap') w'/\w'.ownsRow B 9 1 (.slice Bo (n+l.length) cap') (n+l.length) (ds++l.map Value.string)/\w.grownBy w' v.ownBlock/\∀k,(Value.slice Bo (n+l.length) cap').ownBlock=some k->v.ownBlock=some k\/w.heap.size<=k:=by
  intro b o hao hcell;subst hao
  obtain⟨v',w',hr,h2,h3,_,h5⟩:=run_append_own_at (P:=Tryz.prog) w B 32 ty 9 ti (.string ⟨#[]⟩) 1 16 Tryz.underlying32 hti htj.2.2 htj.1 htj.2.1 rfl bS v n ds hown ⟨b,o,none⟩ l.length cap (l.map Value.string) (by rw[jV];omega) (fun j u hu=>by
   have hadd:(⟨b,o,none⟩:Addr).add j=⟨b,o+j,none⟩:=by unfold Addr.add;split<;>simp_all
   rw[dS] at hu;obtain⟨y,hy,rfl⟩:=bA.1 hu
   rw[hadd];exact hcell j y hy) (by intro u hu;obtain⟨y,_,rfl⟩:=fP.1 hu;rfl) (by unfold maxLen;omega) aJ hb
  obtain⟨Bo,cap',rfl,_,_⟩:=bE h2;refine⟨Bo,cap',w',hr,h2,h3,fun k hk=>?_⟩
  rcases h5 with h5|h5
  ·exact aK (by rw[<-h5];exact hk)
  rw[hk] at h5;have:=ax h5;exact aP aJ
 rcases hh with ⟨h0,rfl,_⟩|⟨b,o,rfl,hcell⟩
 ·cases ao with
  |none=>
   obtain rfl:=h0 rfl;obtain⟨Bo,cap',rfl,_,_⟩:=bE hown;refine⟨Bo,cap',w,run_append_owned_none (P:=Tryz.prog) (w:=w) B 32 ty 9 ti 1 Tryz.underlying32 hti _ n ds hown,?_,⟨rfl,rfl,rfl,ai _,fun _ _ _=>rfl⟩,fun k hk=>aK hk⟩;rw[CV,fM];exact hown
  |some a=>
   obtain⟨b,o,f⟩:=a;obtain⟨v',w',hr,h2,h3,_,h5⟩:=run_append_own_at (P:=Tryz.prog) w B 32 ty 9 ti (.string ⟨#[]⟩) 1 16 Tryz.underlying32 hti htj.2.2 htj.1 htj.2.1 rfl bS v n ds hown ⟨b,o,f⟩ 0 cap [] rfl (fun j u hu=>by simp at hu) (fun u hu=>by cases hu) (by unfold maxLen;simp at hle;omega) (by simp at hle;omega) hb;obtain⟨Bo,cap',rfl,_,_⟩:=bE h2;refine⟨Bo,cap',w',hr,h2,h3,fun k hk=>?_⟩
   rcases h5 with h5|h5
   ·exact aK (by rw[<-h5];exact hk)
   have hk':(Value.slice Bo (n+0) cap').ownBlock=some k:=hk;rw[hk'] at h5;have:=ax h5;exact aP aJ
 exact main b o rfl hcell
variable {o:Oper}
theorem Je{w:ak}{a:Act}{K:Act->ak->Prop}{Q:Exit->Act->ak->Prop}(s x:Operand)
  (ho:o.op=.call {callee:=.builtin .append,args:=#[s,x],argTypes:=#[32,32]}) (B:Nat) (v:Value) (n:Nat) (ds:List Value) (hs:a.eval s=v) (hown:w.ownsRow B 9 1 v n ds) (vx:Value) (l:List ah) (hx:a.eval x=vx) (hxl:bL w vx l) (hle:n+l.length<=100000000) (hb:B<=w.heap.size)
  (h:∀Bo cap' w',w'.ownsRow B 9 1 (.slice Bo (n+l.length) cap') (n+l.length) (ds++l.map Value.string)->w.grownBy w' v.ownBlock->(∀k,(Value.slice Bo (n+l.length) cap').ownBlock=some k->v.ownBlock=some k\/w.heap.size<=k)->K (a.put o.dst (.slice Bo (n+l.length) cap')) w'):o.wp Tryz.prog a w K Q:=by
 obtain⟨Bo,cap',w',hr,h2,h3,h4⟩:=GL o.type B v n ds hown vx l hxl hle hb;unfold Oper.wp execOp;simp only[ho,resolve,invoke,builtin,NK,Sem.run_pure,Result.andThen_ok,List.map_toArray,mJ,CV,hs,hx,hr];exact h Bo cap' w' h2 h3 h4
theorem yL{w:ak}{ops:Array Oper}{a:Act}{K:Act->ak->Prop}{Q:Exit->Act->ak->Prop}{E:Prop}(hgd:o.guard=none)(s x:Operand)
  (ho:o.op=.call {callee:=.builtin .append,args:=#[s,x],argTypes:=#[32,32]}) (B:Nat) (v:Value) (n:Nat) (ds:List Value) (hs:a.eval s=v) (hown:w.ownsRow B 9 1 v n ds) (vx:Value) (l:List ah) (hx:a.eval x=vx) (hxl:bL w vx l) (hle:n+l.length<=100000000) (hb:B<=w.heap.size)
  (h:∀Bo cap' w',w'.ownsRow B 9 1 (.slice Bo (n+l.length) cap') (n+l.length) (ds++l.map Value.string)->w.grownBy w' v.ownBlock->(∀k,(Value.slice Bo (n+l.length) cap').ownBlock=some k->v.ownBlock=some k\/w.heap.size<=k)->K (a.put o.dst (.slice Bo (n+l.length) cap')) w'):if Region.wanted o (yielded ops a.tmps)=true then Oper.wp Tryz.prog o a w K Q else E:=by
 have hw:Region.wanted o (yielded ops a.tmps)=true:=by simp[Region.wanted,hgd]
 rw[aH hw];exact Je s x ho B v n ds hs hown vx l hx hxl hle hb h
end
section
open Go.RowKit Go.Maps
def JG(A:Nat->Nat)(a:Nat->Addr)(t:Nat->ah)(left fb:Nat)(q:(Int×Int)×fB)(w:ak)(e:Ending)(w':ak):Prop:=
 ∃r1 r2 r3 r4 A',e=.returned (.tuple #[.agg #[r1,r2,r3,r4],.int .i64 q.1.1,.int .i64 q.1.2])/\NJ w' r1 r2 r3 r4 q.2/\(∀k,(r1.ownBlock=some k\/r2.ownBlock=some k\/r3.ownBlock=some k\/r4.ownBlock=some k)->w.heap.size<=k/\A' k=0)/\nX A a t left fb q.2.r w w' A'
variable {A:Nat->Nat}{a:Nat->Addr}{t:Nat->ah}{left fb:Nat}{r:bY}{w w':ak}
theorem nZ.freed{b:Nat}(h:nZ A a t left fb r w)(hb:A b=9)(hs:w.heap.size<=w'.heap.size)(hkp:∀k,k<w.heap.size->k≠b->w'.heap[k]?=w.heap[k]?):nZ (fun k=>if k=b then 0 else A k) a t left fb r w':=by
 have hn:∀k,A k<=8->k≠b:=fun k h8 e=>by rw[e,hb] at h8;omega
 have hg:∀k,k<14->w'.heap[k]?=w.heap[k]?:=fun k hk=>hkp k (aB hk h.env.glob) (hn k (by rw[h.env.zero k hk];omega))
 refine⟨⟨h.env.pU.keep hg (fun k hk=>hkp _ (iN (h.env.pU.text k hk)) (hn _ (by rw[h.env.errs k hk];omega))),fun k hk=>(aA (hn k (by rw[h.env.zero k hk];omega))).trans (h.env.zero k hk),fun k hk=>(aA (hn _ (by rw[h.env.errs k hk];omega))).trans (h.env.errs k hk),aC h.env.glob hs⟩,h.rounds.keep hg,h.gl.keep hs hg,(h.files.keep (w':=w') (A':=A) (fun _ _=>rfl) (fun k hk q=>hkp k hk (hn k aJ))).Yc (fun k _=>⟨fun e=>(aA (hn k aJ)).trans e,fun e=>(aA (hn k aJ)).trans e⟩),fun k hk=>?_,fun k=>?_⟩
 ·show(if k=b then 0 else A k)=0
  split
  ·rfl
  exact h.above k (aC hs hk)
 show(if k=b then 0 else A k)=0\/(if k=b then 0 else A k)=1\/9<=(if k=b then 0 else A k)
 split
 ·exact aK rfl
 exact h.own k
theorem Lc(text:ah)(vt:Value)(ts:List ah)(h:nZ A a t (left+2000000) fb r w)(ht:bL w vt ts)(hx:text.size<=140737488351232)(htl:ts.length<=1048576)(hts:∀x∈ts,x.size<=maxLen):
  Calls Tryz.prog 19 #[.pointer (some ⟨fb,0,none⟩),.string text,vt] w (JG A a t left fb (ow r text ts) w):=by
 have hb1:Below w.heap.size w (w.alloc (.cells #[.slice none 0 0,.slice none 0 0,.slice none 0 0,.slice none 0 0] 36)):=(ay _ _).alloc (ai _) _;have hs1:(w.alloc (.cells #[.slice none 0 0,.slice none 0 0,.slice none 0 0,.slice none 0 0] 36)).heap.size=w.heap.size+1:=bO _ _;have HW1:Hid (Below w.heap.size w (w.alloc (.cells #[.slice none 0 0,.slice none 0 0,.slice none 0 0,.slice none 0 0] 36))/\(w.alloc (.cells #[.slice none 0 0,.slice none 0 0,.slice none 0 0,.slice none 0 0] 36)).heap[w.heap.size]?=some (.cells #[.slice none 0 0,.slice none 0 0,.slice none 0 0,.slice none 0 0] 36 (0,0))/\(w.alloc (.cells #[.slice none 0 0,.slice none 0 0,.slice none 0 0,.slice none 0 0] 36)).heap.size=w.heap.size+1):=⟨hb1,bq _ _ _ rfl,hs1⟩;have HTP:=bB (VB text vt ts (h.mark hb1 aJ) (ht.iy hb1) hx htl hts)
 have HI:Hid ((Tryz.prog.info? 36).map (·.size)=some 4):=by unfold Hid;kernel_rfl
 obtain⟨aot,adt,rfl,_,_⟩:=ht;generalize ts.length=TL at*;clear h hx htl hts hb1 hs1
 go_enter Tryz.func19,Tryz.ntmps19
 go_wp2_with fail
 generalize w.alloc (.cells #[.slice none 0 0,.slice none 0 0,.slice none 0 0,.slice none 0 0] 36)=w1 at*;refine HTP.out.mono ?_;rintro e2 w2 ⟨ve,r1,r2,r3,r4,A2,rfl,af3,hrep,hzero,hbe⟩;have H2:=aV (aO af3 (aO hrep (aO hzero hbe)));have hvf:=af3.1;obtain⟨o1,p1,hv1,_,_⟩:=bE hrep.ran;obtain⟨o2,p2,hv2,_,_⟩:=bE hrep.cl;obtain⟨o3,p3,hv3,_,_⟩:=bE hrep.fa;obtain⟨o4,p4,hv4,_,_⟩:=bE hrep.bl;generalize (ow r text ts).2.ran.length=n1 at*;generalize (ow r text ts).2.cl.length=n2 at*;generalize (ow r text ts).2.fa.length=n3 at*;generalize (ow r text ts).2.bl.length=n4 at*;clear af3 hrep hzero hbe HTP;subst hv1 hv2 hv3 hv4;have Nz:Hid (Below w2.heap.size w2 (w2.alloc (.cells #[.slice o1 n1 p1,.slice o2 n2 p2,.slice o3 n3 p3,.slice o4 n4 p4] 36))):=(ay _ _).alloc (ai _) _
 rcases hvf with rfl|⟨TT,xx,rfl⟩
 all_goals
  have HNU:=bB (H2.out.1.2 _ Nz.out)
  go_wp2_with fail
  refine HNU.out.mono ?_;rintro e4 w4 ⟨rfl,hb4⟩;have Zj:Below w2.heap.size w2 w4:=Nz.out.trans (hb4.mono Nz.out.size);have hw9:A2 w.heap.size=9:=(H2.out.2.2.2.2.1 w.heap.size (bN HW1.out.2.1)).trans (aH rfl);have hr2:w2.heap[w.heap.size]?=some (.cells #[.slice none 0 0,.slice none 0 0,.slice none 0 0,.slice none 0 0] 36 (0,0)):=(H2.out.2.2.2.2.2.block w.heap.size (bN HW1.out.2.1) (fun q=>by have q2:(9:Nat)=1:=(aH rfl).symm.trans q;omega)).trans HW1.out.2.1;have hr4:w4.heap[w.heap.size]?=some (.cells #[.slice none 0 0,.slice none 0 0,.slice none 0 0,.slice none 0 0] 36 (0,0)):=(Zj.block _ (bN hr2)).trans hr2;have hd4:w4.heap[w2.heap.size]?=some (.cells #[.slice o1 n1 p1,.slice o2 n2 p2,.slice o3 n3 p3,.slice o4 n4 p4] 36 (0,0)):=(hb4.block w2.heap.size (by rw[bO];omega)).trans (bq _ _ _ rfl)
  have dc:∀i,w4.cell? ⟨w2.heap.size,i,none⟩=(#[Value.slice o1 n1 p1,.slice o2 n2 p2,.slice o3 n3 p3,.slice o4 n4 p4]:Array Value)[i]?:=fun i=>aj _ _ _ _ _ _ hd4
  have d0:=dc 0;have d1:=dc 1;have d2:=dc 2;have d3:=dc 3
  have zc:∀i,w4.cell? ⟨w.heap.size,i,none⟩=(#[Value.slice none 0 0,.slice none 0 0,.slice none 0 0,.slice none 0 0]:Array Value)[i]?:=fun i=>aj _ _ _ _ _ _ hr4
  have z0:=zc 0;have z1:=zc 1;have z2:=zc 2;have z3:=zc 3;have f0:w4.frozen? ⟨w.heap.size,0,none⟩=false:=aD _ _ _ _ _ hr4;have f1:w4.frozen? ⟨w.heap.size,1,none⟩=false:=aD _ _ _ _ _ hr4;have f2:w4.frozen? ⟨w.heap.size,2,none⟩=false:=aD _ _ _ _ _ hr4;have f3:w4.frozen? ⟨w.heap.size,3,none⟩=false:=aD _ _ _ _ _ hr4
  have HRR:Hid (((((w4.setCell ⟨w.heap.size,0,none⟩ (.slice o1 n1 p1)).setCell ⟨w.heap.size,1,none⟩ (.slice o2 n2 p2)).setCell ⟨w.heap.size,2,none⟩ (.slice o3 n3 p3)).setCell ⟨w.heap.size,3,none⟩ (.slice o4 n4 p4)).heap[w.heap.size]?=some (.cells #[.slice o1 n1 p1,.slice o2 n2 p2,.slice o3 n3 p3,.slice o4 n4 p4] 36 (0,0))/\∀k,k≠w.heap.size->((((w4.setCell ⟨w.heap.size,0,none⟩ (.slice o1 n1 p1)).setCell ⟨w.heap.size,1,none⟩ (.slice o2 n2 p2)).setCell ⟨w.heap.size,2,none⟩ (.slice o3 n3 p3)).setCell ⟨w.heap.size,3,none⟩ (.slice o4 n4 p4)).heap[k]?=w4.heap[k]?):=⟨by
   have g0:=aR w4 w.heap.size 0 _ _ (.slice o1 n1 p1) hr4;have g1:=aR _ w.heap.size 1 _ _ (.slice o2 n2 p2) g0;have g2:=aR _ w.heap.size 2 _ _ (.slice o3 n3 p3) g1;have g3:=aR _ w.heap.size 3 _ _ (.slice o4 n4 p4) g2
   exact g3,fun k hk=>by rw[au _ _ _ _ (show k≠w.heap.size from hk),au _ _ _ _ (show k≠w.heap.size from hk),au _ _ _ _ (show k≠w.heap.size from hk),au _ _ _ _ (show k≠w.heap.size from hk)]⟩
  have Bc:Hid (JG A a t left fb (ow r text ts) w (.returned (.tuple #[.agg #[.slice o1 n1 p1,.slice o2 n2 p2,.slice o3 n3 p3,.slice o4 n4 p4],.int .i64 (ow r text ts).1.1,.int .i64 (ow r text ts).1.2])) ((((w4.setCell ⟨w.heap.size,0,none⟩ (.slice o1 n1 p1)).setCell ⟨w.heap.size,1,none⟩ (.slice o2 n2 p2)).setCell ⟨w.heap.size,2,none⟩ (.slice o3 n3 p3)).setCell ⟨w.heap.size,3,none⟩ (.slice o4 n4 p4))):=by
   have abA:((((w4.setCell ⟨w.heap.size,0,none⟩ (.slice o1 n1 p1)).setCell ⟨w.heap.size,1,none⟩ (.slice o2 n2 p2)).setCell ⟨w.heap.size,2,none⟩ (.slice o3 n3 p3)).setCell ⟨w.heap.size,3,none⟩ (.slice o4 n4 p4)).heap.size=w4.heap.size:=by rw[dI,dI,dI,dI]
   have hkp:∀k,k<w2.heap.size->k≠w.heap.size->((((w4.setCell ⟨w.heap.size,0,none⟩ (.slice o1 n1 p1)).setCell ⟨w.heap.size,1,none⟩ (.slice o2 n2 p2)).setCell ⟨w.heap.size,2,none⟩ (.slice o3 n3 p3)).setCell ⟨w.heap.size,3,none⟩ (.slice o4 n4 p4)).heap[k]?=w2.heap[k]?:=fun k hk hn=>(HRR.out.2 k hn).trans (Zj.block k hk)
   have hle:w2.heap.size<=((((w4.setCell ⟨w.heap.size,0,none⟩ (.slice o1 n1 p1)).setCell ⟨w.heap.size,1,none⟩ (.slice o2 n2 p2)).setCell ⟨w.heap.size,2,none⟩ (.slice o3 n3 p3)).setCell ⟨w.heap.size,3,none⟩ (.slice o4 n4 p4)).heap.size:=by rw[abA];exact Zj.size
   have hB9:=H2.out.2.2.2.1.freed hw9 hle hkp;have hw1:=HW1.out.2.2
   have hwb:∀k,w1.heap.size<=k->k≠w.heap.size:=fun k hk=>aJ
   have ro:∀{v:Value} {n:Nat} {xs:List Value},w2.ownsRow 0 9 1 v n xs->(∀k,v.ownBlock=some k->w1.heap.size<=k)->((((w4.setCell ⟨w.heap.size,0,none⟩ (.slice o1 n1 p1)).setCell ⟨w.heap.size,1,none⟩ (.slice o2 n2 p2)).setCell ⟨w.heap.size,2,none⟩ (.slice o3 n3 p3)).setCell ⟨w.heap.size,3,none⟩ (.slice o4 n4 p4)).ownsRow 0 9 1 v n xs:=fun {v n xs} hr hn=>dR hr (fun k hk=>hkp k (bF hr k hk).2 (hwb k (hn k hk)))
   have hz:=H2.out.2.2.1;refine⟨_,_,_,_,_,rfl,⟨ro H2.out.2.1.ran (fun k hk=>(hz k (aK hk)).1),ro H2.out.2.1.cl (fun k hk=>(hz k (aP (aK hk))).1),ro H2.out.2.1.fa (fun k hk=>(hz k (aP (aP (aK hk)))).1),ro H2.out.2.1.bl (fun k hk=>(hz k (aP (aP (aP hk)))).1)⟩,fun k hk=>⟨by have:=(hz k hk).1;omega,(aA (hwb k (hz k hk).1)).trans (hz k hk).2⟩,hB9,fun k hk=>(aA aJ).trans ((H2.out.2.2.2.2.1 k aJ).trans (aA aJ)),?_⟩;have ht:=H2.out.2.2.2.2.2;refine⟨Zj.os.trans (ht.os.trans HW1.out.1.os),Zj.output.trans (ht.output.trans HW1.out.1.output),aC HW1.out.1.size (aC ht.size hle),fun k hk hn=>?_⟩;rw[hkp k (by have:=ht.size;omega) aJ,ht.block k aJ (fun q=>hn ((aA (show¬k=w.heap.size by omega)).symm.trans q))];exact HW1.out.1.block k hk
  clear hb4 Zj hw9 hr2 hr4 hd4 dc zc HNU H2 Nz;generalize (ow r text ts).1.1=num at*;generalize (ow r text ts).1.2=line at*
  go_wp2_with fail
  refine bV (zy rfl _ _ _ w.heap.size 0 [Value.slice o1 n1 p1,.slice o2 n2 p2,.slice o3 n3 p3,.slice o4 n4 p4] _ rfl (fun i u hu=>by rw[aj _ _ _ _ _ _ HRR.out.1,dh,<-cZ];exact hu) Tryz.underlying36 rfl HI.out) rfl ?_;exact Bc.out
variable {A':Nat->Nat}
theorem nZ.turn(h:nZ A a t left fb r w)(hs:w.heap.size<=w'.heap.size)(hA:∀k,k<w.heap.size->A' k=A k)(hb:∀k,k<w.heap.size->A k<=8->w'.heap[k]?=w.heap[k]?)(ha:∀k,w'.heap.size<=k->A' k=0)(ho:∀k,w.heap.size<=k->A' k=0\/9<=A' k):nZ A' a t left fb r w':=by
 have hg:∀k,k<14->w'.heap[k]?=w.heap[k]?:=fun k hk=>hb k (aB hk h.env.glob) (by rw[h.env.zero k hk];decide)
 refine⟨h.env.keep hs hA (fun k hk h0=>hb k hk aJ),h.rounds.keep hg,h.gl.keep hs hg,h.files.keep hA (fun k hk q=>hb k hk aJ),ha,fun k=>?_⟩
 by_cases q:k<w.heap.size
 ·rw[hA k q];exact h.own k
 rcases ho k aJ with e|e
 ·exact aK e
 exact aP (aP e)
variable {c:Nat}{r':bY}
theorem nZ.stepped{d':dX}(h:nZ A a t (left+1) fb r w)(hc:c+left<=900000000000)(hp:jg A' 1 c fb d' r' w')(hI:rY c r' d')(hA:∀k,k<w.heap.size->A' k=A k)(ht:aW (fun k=>A k=1) w w'):∃A3,nX A a t left fb r' w w' A3:=by
 have hA3:∀k,k<w.heap.size->(if k<w.heap.size then A k else if k<w'.heap.size/\A' k=1 then 1 else 0)=A k:=fun k hk=>aH hk
 have hkp:∀k,k<w.heap.size->A k≠1->w'.heap[k]?=w.heap[k]?:=fun k hk hn=>ht.block k hk hn
 have hg:∀k,k<14->w'.heap[k]?=w.heap[k]?:=fun k hk=>hkp k (aB hk h.env.glob) (by rw[h.env.zero k hk];decide)
 have hf:qf A' left fb r' w':=⟨c,d',hc,hp,hI⟩;refine⟨fun k=>if k<w.heap.size then A k else if k<w'.heap.size/\A' k=1 then 1 else 0,⟨h.env.keep ht.size hA3 (fun k hk h0=>hkp k hk aJ),h.rounds.keep hg,h.gl.keep ht.size hg,hf.Yc (fun k hk=>?_),fun k hk=>?_,fun k=>?_⟩,hA3,ht⟩
 ·by_cases q:k<w.heap.size
  ·rw[aH q,hA k q];exact⟨id,id⟩
  rw[aA q];exact⟨fun e=>aH ⟨hk,e⟩,fun e=>aA (fun q=>by have:=q.2;omega)⟩
 ·have hw:w.heap.size<=k:=aC ht.size hk;show(if k<w.heap.size then A k else if k<w'.heap.size/\A' k=1 then 1 else 0)=0;rw[aA aJ,aA (fun q=>by have:=q.1;omega)]
 show(if k<w.heap.size then A k else if k<w'.heap.size/\A' k=1 then 1 else 0)=0\/(if k<w.heap.size then A k else if k<w'.heap.size/\A' k=1 then 1 else 0)=1\/9<=(if k<w.heap.size then A k else if k<w'.heap.size/\A' k=1 then 1 else 0)
 split
 ·exact h.own k
 split
 ·exact aP (aK rfl)
 exact aK rfl
theorem Wp(h:nZ A a t (left+1) fb r w)(name data:ah)(hn:name.size<=140737488351232)(hd:data.size<=140737488351232):
  Calls Tryz.prog 29 #[.pointer (some ⟨fb,0,none⟩),.string name,.string data] w fun e w'=>e=.returned (.int .i64 (eP r name data).1)/\∃A3,nX A a t left fb (eP r name data).2 w w' A3:=by
 obtain⟨c,d,hc,hp,hI⟩:=h.files;refine(Lg bS h.env hp hI aJ name data hn hd).mono ?_;rintro e w' ⟨d',A',rfl,h1,h2,h3,h4⟩;exact⟨rfl,h.stepped aJ h1 h2 h3 h4⟩
theorem Tn(h:nZ A a t (left+1) fb r w)(name:ah)(hn:name.size<=140737488351232):
  Calls Tryz.prog 51 #[.pointer (some ⟨fb,0,none⟩),.string name] w fun e w'=>e=.returned (.int .i64 (tq r name).1)/\∃A3,nX A a t left fb (tq r name).2 w w' A3:=by
 obtain⟨c,d,hc,hp,hI⟩:=h.files;refine(IZ bS h.env hp hI aJ name hn).mono ?_;rintro e w' ⟨d',A',rfl,h1,h2,h3,h4⟩;exact⟨rfl,h.stepped aJ h1 h2 h3 h4⟩
def XE(A:Nat->Nat)(a:Nat->Addr)(t:Nat->ah)(left fb:Nat)(q:bY)(w:ak)(e:Ending)(w':ak):Prop:=e=.returned (.tuple #[])/\∃A3,nX A a t left fb q w w' A3
variable {e:Ending}
theorem nZ.abZ{q:bY}(h:nZ A a t (left+1) fb r w)(hc:c+(left+1)<=900000000000)(hq:XK A 1 c fb q w e w'):XE A a t left fb q w e w':=by
 obtain⟨d',A',rfl,h1,h2,h3,h4⟩:=hq;exact⟨rfl,h.stepped aJ h1 h2 h3 h4⟩
theorem Ol(h:nZ A a t (left+1) fb r w)(n:Int)(hn:n<=9223372036854775807):
  Calls Tryz.prog 52 #[.pointer (some ⟨fb,0,none⟩),.int .i64 n] w (XE A a t left fb {r with lit:=decide (0<n),left:=n} w):=by
 obtain⟨c,d,hc,hp,hI⟩:=h.files
 exact(ZN bS hp hI n hn).mono fun e w' hq=>h.abZ hc hq
theorem Om(h:nZ A a t (left+1) fb r w)(n:Int):
  Calls Tryz.prog 41 #[.pointer (some ⟨fb,0,none⟩),.int .i64 n] w (XE A a t left fb {r with room:=min (max n 0) 65536} w):=by
 obtain⟨c,d,hc,hp,hI⟩:=h.files
 exact(ZO bS hp hI n).mono fun e w' hq=>h.abZ hc hq
theorem KH(h:nZ A a t (left+1) fb r w)(keep cut:Int):
  Calls Tryz.prog 40 #[.pointer (some ⟨fb,0,none⟩),.int .i64 keep,.int .i64 cut] w (XE A a t left fb (BN r keep cut) w):=by
 obtain⟨c,d,hc,hp,hI⟩:=h.files
 exact(WZ bS hp hI aJ keep cut).mono fun e w' hq=>h.abZ hc hq
theorem nZ.read{d:dX}(h:nZ A a t left fb r w)(hc:c+left<=900000000000)(hp:jg A 1 c fb d r w')(hI:rY c r d)(ht:aW (fun k=>A k=1) w w'):nX A a t left fb r w w' A:=by
 have hkp:∀k,k<w.heap.size->A k≠1->w'.heap[k]?=w.heap[k]?:=fun k hk hn=>ht.block k hk hn
 have hg:∀k,k<14->w'.heap[k]?=w.heap[k]?:=fun k hk=>hkp k (aB hk h.env.glob) (by rw[h.env.zero k hk];decide)
 exact⟨⟨h.env.keep ht.size (fun _ _=>rfl) (fun k hk h0=>hkp k hk aJ),h.rounds.keep hg,h.gl.keep ht.size hg,⟨c,d,hc,hp,hI⟩,fun k hk=>h.above k (aC ht.size hk),h.own⟩,fun _ _=>rfl,ht⟩
theorem xI(h:nZ A a t left fb r w)(name:ah)(hn:name.size<=140737488351232):
  Calls Tryz.prog 21 #[.pointer (some ⟨fb,0,none⟩),.string name] w fun e w'=>e=.returned (.tuple #[.string ((dM r name).getD ⟨#[]⟩),.int .i64 (if (dM r name).isSome=true then 0 else 2)])/\nX A a t left fb r w w' A:=by
 obtain⟨c,d,hc,hp,hI⟩:=h.files;refine(Nk bS h.env hp name hn).mono ?_;rintro e w' ⟨rfl,h1,h2⟩;refine⟨?_,h.read hc h1 hI h2⟩;rw[Gt]
theorem KI(h:nZ A a t left fb r w):
  Calls Tryz.prog 44 #[.pointer (some ⟨fb,0,none⟩)] w fun e w'=>∃g,w.heap.size<=g/\g<w'.heap.size/\A g=0/\e=.returned (.slice (some ⟨g,0,none⟩) r.seen.length r.seen.length)/\(∀i x,(r.seen.map (·.1))[i]?=some x->w'.cell? ⟨g,i,none⟩=some (.string x))/\nX A a t left fb r w w' A:=by
 obtain⟨c,d,hc,hp,hI⟩:=h.files;refine(Xa bS hp hI aJ).mono ?_;rintro e w' ⟨g,hg,rfl,hr,h1,h2⟩;have hgl:=(bF hr g rfl).2;refine⟨g,hg,hgl,h.above g hg,rfl,fun i x hx=>?_,h.read hc h1 hI h2⟩
 obtain⟨z,hz,rfl⟩:∃z,r.seen[i]?=some z/\z.1=x:=by
  rw[dS] at hx;exact bA.1 hx
 have h3:=(dV hr i (.string z.1) (by unfold rR;rw[dS,dS,hz];rfl)).1;exact h3
structure KV where
 x:ah
 v:Nat->Value
 l:Nat->List ah
 vo:Bool
def KV.put(v:KV)(i:Nat)(u:Value)(l:List ah):KV:=⟨v.x,fun j=>if j=i then u else v.v j,fun j=>if j=i then l else v.l j,v.vo⟩
structure KW(w0:ak)(A:Nat->Nat)(a:Nat->Addr)(t:Nat->ah)(left fb wb:Nat)(r:bY)(v:KV)(w:ak):Prop where
 base:nZ A a t left fb r w
 row:w.heap[wb]?=some (.cells #[.pointer (some ⟨fb,0,none⟩),.string v.x,v.v 2,v.v 3,v.v 4,.bool v.vo] 34 (0,0))
 own:∀i,2<=i->i<=4->w.ownsRow 0 9 1 (v.v i) (v.l i).length ((v.l i).map Value.string)
 cw:A wb=10
 cl:∀i,2<=i->i<=4->∀k,(v.v i).ownBlock=some k->A k=9+i
 bl:aW (fun k=>w0.heap.size<=k) w0 w
 low:∀k,k<w0.heap.size->A k=0
 text:v.x.size<=140737488351232
 each:∀y∈v.l 2,y.size<=140737488351232
def KF(A:Nat->Nat)(k:Nat):Prop:=A k=1\/10<=A k
def zH(w0:ak)(A:Nat->Nat)(a:Nat->Addr)(t:Nat->ah)(left fb wb:Nat)(r:bY)(v:KV)(w w':ak):Prop:=∃A',KW w0 A' a t left fb wb r v w'/\(∀k,k<w.heap.size->A' k=A k)/\aW (KF A) w w'
variable {w1 w2:ak}
theorem xZ(hA:∀k,k<w.heap.size->A' k=A k)(h1:aW (KF A) w w1)(h2:aW (KF A') w1 w2):aW (KF A) w w2:=
 h1.trans h2 (fun k hk=>by
  by_cases q:k<w.heap.size
  ·left;unfold KF at hk⊢;rw[hA k q] at hk;exact hk
  exact aP aJ)
variable {w0:ak}{wb:Nat}{v:KV}
theorem zH.trans{A1:Nat->Nat}(hA:∀k,k<w.heap.size->A1 k=A k)(ht:aW (KF A) w w1)(h2:zH w0 A1 a t left fb wb r v w1 w2):zH w0 A a t left fb wb r v w w2:=by
 obtain⟨A2,h3,h4,h5⟩:=h2;exact⟨A2,h3,fun k hk=>(h4 k (aB hk ht.size)).trans (hA k hk),xZ hA ht h5⟩
theorem zH.after(hb:Below w.heap.size w w1)(h2:zH w0 A a t left fb wb r v w1 w2):zH w0 A a t left fb wb r v w w2:=zH.trans (fun _ _=>rfl) (aW.of_below _ hb) h2
variable {left':Nat}
theorem KW.keep(h:KW w0 A a t left fb wb r v w)(hB:nZ A' a t left' fb r' w')(hA:∀k,k<w.heap.size->A' k=A k)(ht:aW (fun k=>A k=1) w w'):KW w0 A' a t left' fb wb r' v w' where
 base:=hB
 row:=(ht.block wb (bN h.row) (by rw[h.cw];decide)).trans h.row
 own i h2 h4:=dR (h.own i h2 h4) (fun k hk=>ht.block k (bF (h.own i h2 h4) k hk).2 (by rw[h.cl i h2 h4 k hk];omega))
 cw:=by rw[hA _ (bN h.row)];exact h.cw
 cl i h2 h4 k hk:=by rw[hA k (bF (h.own i h2 h4) k hk).2];exact h.cl i h2 h4 k hk
 bl:=h.bl.trans ht (fun i hi=>aP (by
  rcases bX i w0.heap.size with q|q
  ·rw[h.low i q] at hi;cases hi
  exact q))
 low k hk:=by rw[hA k (aB hk h.bl.size)];exact h.low k hk
 text:=h.text
 each:=h.each
theorem KW.below(h:KW w0 A a t left fb wb r v w)(hb:Below w.heap.size w w'):KW w0 A a t left fb wb r v w':=h.keep (h.base.below hb) (fun _ _=>rfl) (aW.of_below _ hb)
theorem KW.less(h:KW w0 A a t left fb wb r v w)(hl:left'<=left):KW w0 A a t left' fb wb r v w:={h with base:=h.base.less hl}
theorem KW.texts(h:KW w0 A a t left fb wb r v w):bL w (v.v 2) (v.l 2):=mZ (h.own 2 (ai _) bS)
variable {i:Nat}{v':KV}
theorem KW.cell{u:Value}(h:KW w0 A a t left fb wb r v w)(hr:(#[.pointer (some ⟨fb,0,none⟩),.string v.x,v.v 2,v.v 3,v.v 4,.bool v.vo]:Array Value).setIfInBounds i u=#[.pointer (some ⟨fb,0,none⟩),.string v'.x,v'.v 2,v'.v 3,v'.v 4,.bool v'.vo])(hv:v'.v=v.v/\v'.l=v.l)(hx:v'.x.size<=140737488351232):zH w0 A a t left fb wb r v' w (w.setCell ⟨wb,i,none⟩ u):=by
 have hne:∀k,A k≠10->k≠wb:=fun k q e=>q (by rw[e];exact h.cw)
 have hkp:∀k,A k≠10->(w.setCell ⟨wb,i,none⟩ u).heap[k]?=w.heap[k]?:=fun k q=>au _ _ _ _ (show k≠wb from hne k q)
 have hsz:(w.setCell ⟨wb,i,none⟩ u).heap.size=w.heap.size:=dI _ _ _;have ht:aW (fun k=>k=wb) w (w.setCell ⟨wb,i,none⟩ u):=⟨rfl,rfl,by rw[hsz];exact ai _,fun k _ q=>au _ _ _ _ (show k≠wb from q)⟩
 have hw0:w0.heap.size<=wb:=by
  rcases bX wb w0.heap.size with q|q
  ·have:=h.low wb q;rw[h.cw] at this;omega
  exact q
 refine⟨A,⟨h.base.turn ht.size (fun _ _=>rfl) (fun k _ q=>hkp k aJ) (fun k hk=>h.base.above k aJ) (fun k hk=>aK (h.base.above k hk)),?_,fun j h2 h4=>?_,h.cw,fun j h2 h4 k hk=>h.cl j h2 h4 k (by rw[hv.1] at hk;exact hk),h.bl.trans ht (fun k e=>aP aJ),h.low,hx,fun y hy=>h.each y (by rw[hv.2] at hy;exact hy)⟩,fun _ _=>rfl,ht.mono (fun k e=>aP (by rw[e,h.cw];decide))⟩
 ·rw[aR _ _ _ _ _ _ h.row,hr]
 rw[hv.1,hv.2];exact dR (h.own j h2 h4) (fun k hk=>hkp k (by rw[h.cl j h2 h4 k hk];omega))
variable {cap n:Nat}{x:ah}
theorem KW.add{g:Nat}{w7:ak}(h:KW w0 A a t left fb wb r v w)(h2:2<=i)(h4:i<=4)(hn:(v.l i).length=n)(hg:w.grownBy w7 (v.v i).ownBlock)(hat:(v.v i).ownBlock=some g\/g=w.heap.size)(hr:w7.ownsRow 0 9 1 (.slice (some ⟨g,0,none⟩) (n+1) cap) (n+1) ((v.l i).map Value.string++[.string x]))(hx:i=2->x.size<=140737488351232):w7.cell? ⟨wb,i,none⟩=some (v.v i)/\w7.frozen? ⟨wb,i,none⟩=false/\zH w0 A a t left fb wb r (v.put i (.slice (some ⟨g,0,none⟩) (n+1) cap) (v.l i++[x])) w (w7.setCell ⟨wb,i,none⟩ (.slice (some ⟨g,0,none⟩) (n+1) cap)):=by
 subst hn;have hwl:=bN h.row
 have hvw:(v.v i).ownBlock≠some wb:=fun e=>by have h1:=h.cl i h2 h4 wb e;rw[h.cw] at h1;omega
 have AQ:w7.heap[wb]?=_:=(hg.block wb hwl (fun e=>hvw e.symm)).trans h.row
 have hgw:g≠wb:=fun e=>by
  rcases hat with q|q
  ·exact hvw (by rw[<-e];exact q)
  omega
 have hgl:=(bF hr g rfl).2;generalize hU:Value.slice (some ⟨g,0,none⟩) ((v.l i).length+1) cap=U at*
 have hUo:U.ownBlock=some g:=by rw[<-hU];rfl
 have hkp:∀k,k<w.heap.size->A k≠10->A k≠9+i->(w7.setCell ⟨wb,i,none⟩ U).heap[k]?=w.heap[k]?:=fun k hk h1 h3=>(au _ _ _ _ (show k≠wb from fun e=>h1 (by rw[e];exact h.cw))).trans (hg.block k hk (fun e=>h3 (h.cl i h2 h4 k e.symm)))
 have hA2:∀k,k<w.heap.size->(if k=g then 9+i else A k)=A k:=fun k hk=>by
  by_cases q:k=g
  ·rw[aH q]
   rcases hat with e|e
   ·exact(h.cl i h2 h4 k (by rw[q];exact e)).symm
   omega
  exact aA q
 have hs:w.heap.size<=(w7.setCell ⟨wb,i,none⟩ U).heap.size:=by rw[dI];exact hg.size
 have hgA:w.heap.size<=g\/A g=9+i:=by
  rcases hat with e|e
  ·exact aP (h.cl i h2 h4 g e)
  exact aK aJ
 have ht:aW (fun k=>A k=10\/A k=9+i) w (w7.setCell ⟨wb,i,none⟩ U):=⟨hg.os,hg.output,hs,fun k hk q=>hkp k hk (fun e=>q (aK e)) (fun e=>q (aP e))⟩;refine⟨?_,aD _ _ _ _ _ AQ,fun k=>if k=g then 9+i else A k,⟨h.base.turn hs hA2 (fun k hk q=>hkp k hk aJ aJ) (fun k hk=>?_) (fun k hk=>?_),?_,fun j q2 q4=>?_,(hA2 wb hwl).trans h.cw,fun j q2 q4 k hk=>?_,h.bl.trans ht (fun k e=>?_),fun k hk=>(hA2 k (aB hk h.bl.size)).trans (h.low k hk),h.text,fun y hy=>?_⟩,hA2,ht.mono (fun k e=>aP aJ)⟩
 ·rw[aj _ _ _ _ _ _ AQ]
  obtain rfl|rfl|rfl:i=2\/i=3\/i=4:=aJ
  all_goals rfl
 ·rw[dI] at hk;exact(aA aJ).trans (h.base.above k (aC hg.size hk))
 ·by_cases q:k=g
  ·exact aP (by show 9<=(if k=g then 9+i else A k);rw[aH q];omega)
  exact aK ((aA q).trans (h.base.above k hk))
 ·rw[aR _ _ _ _ _ _ AQ]
  obtain rfl|rfl|rfl:i=2\/i=3\/i=4:=aJ
  all_goals rfl
 ·by_cases q:j=i
  ·subst q;show World.ownsRow _ 0 9 1 (if j=j then U else v.v j) (if j=j then v.l j++[x] else v.l j).length ((if j=j then v.l j++[x] else v.l j).map Value.string);rw[aH rfl,aH rfl,aI,iI];exact dR hr (fun k hk=>au _ _ _ _ (show k≠wb from fun e=>hgw (by rw[hUo] at hk;rw[<-e];exact ax hk)))
  show World.ownsRow _ 0 9 1 (if j=i then U else v.v j) (if j=i then v.l i++[x] else v.l j).length ((if j=i then v.l i++[x] else v.l j).map Value.string);rw[aA q,aA q];exact dR (h.own j q2 q4) (fun k hk=>hkp k (bF (h.own j q2 q4) k hk).2 (by rw[h.cl j q2 q4 k hk];omega) (by rw[h.cl j q2 q4 k hk];omega))
 ·have hk':(if j=i then U else v.v j).ownBlock=some k:=hk
  by_cases q:j=i
  ·rw[aH q,hUo] at hk';show(if k=g then 9+i else A k)=9+j;rw[aH (ax hk').symm,q]
  rw[aA q] at hk';exact(hA2 k (bF (h.own j q2 q4) k hk').2).trans (h.cl j q2 q4 k hk')
 ·rcases bX k w0.heap.size with q|q
  ·have:=h.low k q;omega
  exact aP q
 have hy':y∈(if 2=i then v.l i++[x] else v.l 2):=hy
 by_cases q:2=i
 ·rw[aH q] at hy'
  rcases bQ.1 hy' with hy'|hy'
  ·exact h.each y (by rw[q];exact hy')
  rw[bD.1 hy'];exact hx q.symm
 rw[aA q] at hy';exact h.each y hy'
def EC(l:List ah)(s:ah):List ah:=if fo s l=true then l else l++[s]
theorem abN(t:ah)(ht:t.size<140737488355328)(w:ak)(hR:jC w):
  Calls Tryz.prog 77 #[.string t] w fun e w'=>e=.returned (.string (gW t))/\Below w.heap.size w w':=by
 refine(aek Ib t ht w hR KJ).mono ?_;rintro e w' ⟨s,hs,rfl,hb⟩;exact⟨by rw[hs.out];rfl,hb⟩
def aa1(w0:ak)(A:Nat->Nat)(a:Nat->Addr)(t:Nat->ah)(left fb wb:Nat)(r:bY)(v:KV)(y:ah)(w:ak)(e:Ending)(w':ak):Prop:=
 e=.returned (.string (gW y))/\∃v',zH w0 A a t left fb wb r v' w w'/\v'.x=v.x/\v'.v 2=v.v 2/\v'.l 2=v.l 2/\(v'.l 3).length=(v'.l 4).length/\v'.l 4=EC (v.l 4) (gW y)
theorem Eo(h:KW w0 A a t left fb wb r v w)(hn:(v.l 3).length=(v.l 4).length)(hl:(v.l 4).length<=8000000000000)(y:ah)(hy:y.size<140737488355328):
  Calls Tryz.prog 50 #[.pointer (some ⟨wb,0,none⟩),.string y] w (aa1 w0 A a t left fb wb r v y w):=by
 obtain⟨ti,HTI⟩:=iT (P:=Tryz.prog) (e:=9) (n:=1) (b:=16) (z:=(.string ⟨#[]⟩)) dD;have HS:=bB (abN y hy w h.base.rounds);have HK:=bB h;have HN:=bB hn;clear h hn hy
 go_enter Tryz.func50,Tryz.ntmps50
 go_wp2_with fail
 refine HS.out.mono ?_;rintro e1 w1 ⟨rfl,hb1⟩;have HB1:=bB hb1;have Pv:=bB (HK.out.below hb1);clear HK hb1 HS;have Yu:Hid (gW y=gW y):=rfl;generalize hSY:gW y=sy at*;have hk4:=Pv.out.own 4 bS bS;have hk3:=Pv.out.own 3 bS bS;obtain⟨ao4,cap4,hv4,_,hg4⟩:=bE hk4;obtain⟨ao3,aa7,hv3,_,hg3⟩:=bE hk3;generalize hL4:(v.l 4).length=N at*
 have c4:w1.cell? ⟨wb,4,none⟩=some (.slice ao4 N cap4):=by rw[aj _ _ _ _ _ _ Pv.out.row,<-hv4];rfl
 have c3:w1.cell? ⟨wb,3,none⟩=some (.slice ao3 N aa7):=by rw[HN.out] at hv3;rw[aj _ _ _ _ _ _ Pv.out.row,<-hv3];rfl
 have c5:w1.cell? ⟨wb,5,none⟩=some (.bool v.vo):=by rw[aj _ _ _ _ _ _ Pv.out.row];rfl
 have f5:w1.frozen? ⟨wb,5,none⟩=false:=aD _ _ _ _ _ Pv.out.row;have HG4:Hid (w1.ownsRow 0 9 1 (.slice ao4 N cap4) N ((v.l 4).map Value.string)/\(0<N->∃g,ao4=some ⟨g,0,none⟩)):=⟨by rw[<-hv4];exact hk4,hg4⟩
 have HG3:Hid (w1.ownsRow 0 9 1 (.slice ao3 N aa7) N ((v.l 3).map Value.string)/\(0<N->∃g,ao3=some ⟨g,0,none⟩)):=by
  rw[HN.out] at hv3 hk3 hg3;exact⟨by rw[<-hv3];exact hk3,hg3⟩
 have HL4:=bB hL4;have HV:Hid (v.v 4=.slice ao4 N cap4/\v.v 3=.slice ao3 N aa7):=⟨hv4,by rw[HN.out] at hv3;exact hv3⟩;clear hk4 hk3 hv4 hv3 hg4 hg3 hL4 Yu
 have l0:(N:Int)<=8000000000000:=aJ
 go_wp2_with fail
 go_loop [6] (fun i=>∃j:Nat,i=.int .i64 j/\j<=N/\fo sy ((v.l 4).take j)=false) (fun i=>N-(intOf i).toNat)
 case atStart=>exact⟨0,rfl,aS _,rfl⟩
 case round=>
  obtain⟨j,rfl,hj,hm⟩:=hrel;have HM:=bB hm;clear hm
  have j0:(0:Int)<=(j:Int):=aJ
  by_cases hlt:j<N
  ·have j1:(j:Int)<(N:Int):=aJ
   obtain⟨x,hx⟩:∃x,(v.l 4)[j]?=some x:=⟨(v.l 4)[j]'(by have:=HL4.out;omega),eB⟩;obtain⟨z,hz⟩:∃z,(v.l 3)[j]?=some z:=⟨(v.l 3)[j]'(by have:=HL4.out;have:=HN.out;omega),eB⟩;obtain⟨g4,hq4⟩:=HG4.out.2 aJ;obtain⟨g3,hq3⟩:=HG3.out.2 aJ;subst hq4 hq3;have cx:=(dV HG4.out.1 j (.string x) (by rw[dS,hx];rfl)).1;have cz:=(dV HG3.out.1 j (.string z) (by rw[dS,hz];rfl)).1
   have htk:fo sy ((v.l 4).take (j+1))=decide (x=sy):=by
    have h1:(v.l 4).take (j+1)=(v.l 4).take j++[x]:=by rw[dU,hx];rfl
    have h2:fo sy ((v.l 4).take j++[x])=(fo sy ((v.l 4).take j)||decide (x=sy)):=by unfold fo;simp
    rw[h1,h2,HM.out,Bool.false_or]
   have heq:(x.toList==sy.toList)=decide (x=sy):=AV
   by_cases e:x=sy
   ·have q:(x.toList==sy.toList)=true:=by rw[heq];exact bT e
    have HF:Hid (fo sy (v.l 4)=true):=mY.2 (by rw[<-e];exact aU hx)
    have HFIN:Hid (∀b,zH w0 A a t left fb wb r ⟨v.x,v.v,v.l,b⟩ w1 (w1.setCell ⟨wb,5,none⟩ (.bool b))):=fun b=>Pv.out.cell rFL ⟨rfl,rfl⟩ Pv.out.text
    clear htk heq hx hz e
    cases Rx:v.vo
    all_goals
     rw[Rx] at c5
     go_wp2
     go_ret;refine⟨by rw[hSY];rfl,_,zH.after HB1.out (HFIN.out _),rfl,rfl,rfl,HN.out.trans HL4.out.symm,?_⟩;rw[hSY];exact(aH HF.out).symm
   have q:(x.toList==sy.toList)=false:=by rw[heq];exact bM e
   have HX:Hid (fo sy ((v.l 4).take (j+1))=false):=by rw[htk];exact bM e
   clear htk heq hx hz e
   go_wp2
   exact⟨⟨j+1,oW,aJ,HX.out⟩,by simp[intOf];omega⟩
  obtain rfl:j=N:=aJ
  have HF:Hid (fo sy (v.l 4)=false):=by have:=HM.out;rw[bK (dG HL4.out)] at this;exact this
  have NA:=aV (iM w1 [.string sy] 9);have HK2:=bB (Pv.out.below ((ay w1.heap.size w1).alloc (ai _) (.cells #[.string sy] 9)))
  have Da:Hid ((w1.alloc (.cells #[.string sy] 9)).ownsRow 0 9 1 (.slice ao4 j cap4) j ((v.l 4).map Value.string)):=by have h:=HK2.out.own 4 bS bS;rw[HV.out.1,HL4.out] at h;exact h
  clear c3 c5 f5
  go_wp2_with (at_builtin;refine wpList_append_lies _ rfl (.tmp 50) (.tmp 52) 32 rfl 0 9 ti (.string ⟨#[]⟩) 1 16 Tryz.underlying32 HTI.out.1 HTI.out.2.2.2 HTI.out.2.1 HTI.out.2.2.1 rfl bS _ j ((v.l 4).map Value.string) rfl Da.out ⟨w1.heap.size,0,none⟩ 1 1 [.string sy] rfl rfl NA.out (by intro u hu;simp only[bg,dH,kz] at hu;rcases hu with rfl;rfl) bS (by unfold maxLen;omega) aJ (aS _) _ rfl ?_;intro g7 lW w7 hv7 wW rF xu;refine dO ?_)
  have hadd:=HK2.out.add (i:=4) (x:=sy) (g:=g7) (cap:=lW) (w7:=w7) bS bS HL4.out (by rw[HV.out.1];exact wW) (by rw[HV.out.1];exact rF) hv7 (fun e=>by cases e);have d7:=hadd.1;rw[HV.out.1] at d7;have f7:=hadd.2.1;obtain⟨A8,hk8,Qo,Ku⟩:=hadd.2.2;have Vf:Hid ((∀k,k<w1.heap.size->A8 k=A k)/\aW (KF A) w1 (w7.setCell ⟨wb,4,none⟩ (.slice (some ⟨g7,0,none⟩) (j+1) lW))):=⟨fun k hk=>Qo k (by rw[bO];omega),(aW.of_below (KF A) ((ay w1.heap.size w1).alloc (ai _) (.cells #[.string sy] 9))).trans Ku (fun _ q=>aK q)⟩
  have c8:(w7.setCell ⟨wb,4,none⟩ (.slice (some ⟨g7,0,none⟩) (j+1) lW)).cell? ⟨wb,3,none⟩=some (.slice ao3 j aa7):=by rw[aj _ _ _ _ _ _ hk8.row,<-HV.out.2];rfl
  have HK8:=bB hk8;clear hv7 wW rF xu hadd hk8 Qo Ku Da NA HK2 c4
  have HNB:Hid (∀i u,([.string y]:List Value)[i]?=some u->((w7.setCell ⟨wb,4,none⟩ (.slice (some ⟨g7,0,none⟩) (j+1) lW)).alloc (.cells #[.string y] 9)).cell? ((⟨w7.heap.size,0,none⟩:Addr).add i)=some u):=by
   have h:=iM (w7.setCell ⟨wb,4,none⟩ (.slice (some ⟨g7,0,none⟩) (j+1) lW)) [.string y] 9;rw[dI] at h;exact h
  have HK9:=bB (HK8.out.below ((ay ((w7.setCell ⟨wb,4,none⟩ (.slice (some ⟨g7,0,none⟩) (j+1) lW))).heap.size (w7.setCell ⟨wb,4,none⟩ (.slice (some ⟨g7,0,none⟩) (j+1) lW))).alloc (ai _) (.cells #[.string y] 9)))
  have HRP:Hid (((w7.setCell ⟨wb,4,none⟩ (.slice (some ⟨g7,0,none⟩) (j+1) lW)).alloc (.cells #[.string y] 9)).ownsRow 0 9 1 (.slice ao3 j aa7) j ((v.l 3).map Value.string)):=by
   have h:=HK9.out.own 3 bS bS;have h':((w7.setCell ⟨wb,4,none⟩ (.slice (some ⟨g7,0,none⟩) (j+1) lW)).alloc (.cells #[.string y] 9)).ownsRow 0 9 1 (v.v 3) (v.l 3).length ((v.l 3).map Value.string):=h;rw[HV.out.2,HN.out] at h';exact h'
  unfold Hid
  go_wp2_with (at_builtin;refine wpList_append_lies _ rfl (.tmp 60) (.tmp 62) 32 rfl 0 9 ti (.string ⟨#[]⟩) 1 16 Tryz.underlying32 HTI.out.1 HTI.out.2.2.2 HTI.out.2.1 HTI.out.2.2.1 rfl bS _ j ((v.l 3).map Value.string) rfl HRP.out ⟨w7.heap.size,0,none⟩ 1 1 [.string y] rfl rfl HNB.out (by intro u hu;simp only[bg,dH,kz] at hu;rcases hu with rfl;rfl) bS (by unfold maxLen;omega) aJ (aS _) _ rfl ?_;intro g9 ak7 w9 hv9 Ct aic alH;refine dO ?_)
  clear d7 f7;generalize (w7.setCell ⟨wb,4,none⟩ (.slice (some ⟨g7,0,none⟩) (j+1) lW))=w8 at*;have hadd:=HK9.out.add (i:=3) (n:=j) (x:=y) (g:=g9) (cap:=ak7) (w7:=w9) bS bS HN.out (by show World.grownBy _ _ (v.v 3).ownBlock;rw[HV.out.2];exact Ct) (by show(v.v 3).ownBlock=_\/_;rw[HV.out.2];exact aic) hv9 (fun e=>by cases e);have d9:w9.cell? ⟨wb,3,none⟩=some (v.v 3):=hadd.1;rw[HV.out.2] at d9;have f9:=hadd.2.1;have HFIN:=bB hadd.2.2;clear hv9 Ct aic alH hadd HRP HNB HK9 c8 HK8;unfold Hid
  go_wp2_with fail
  go_ret;refine⟨by rw[hSY];rfl,_,zH.after HB1.out (zH.trans Vf.out.1 Vf.out.2 (zH.after ((ay w8.heap.size w8).alloc (ai _) (.cells #[.string y] 9)) HFIN.out)),rfl,rfl,rfl,?_,?_⟩
  ·show(v.l 3++[y]).length=(v.l 4++[sy]).length;rw[aI,aI,HN.out,HL4.out];rfl
  show v.l 4++[sy]=EC (v.l 4) (gW y);rw[hSY];exact(aA (by rw[HF.out];exact fu)).symm
end
def Fj(l cs:List ah):List ah:=cs.foldl (fun l c=>EC l (gW c)) l
def full(c:ah):Bool:=decide (0<c.size)
variable {l:List ah}{x:ah}
theorem aa3{s:ah}(h:x∈l):x∈EC l s:=by
 unfold EC
 split
 ·exact h
 exact fD _ h
theorem YB(l:List ah)(s:ah):s∈EC l s:=by
 unfold EC
 split
 ·rename_i h;exact mY.1 h
 exact lV _ (bD.2 rfl)
theorem JL(l:List ah)(s:ah):(EC l s).length<=l.length+1:=by
 unfold EC
 split
 ·omega
 rw[aI];exact ai _
theorem OI:∀(cs l:List ah),(Fj l cs).length<=l.length+(cs.filter full).length+(if fo (gW ⟨#[]⟩) l=true then 0 else 1)
 |[],l=>by show l.length<=_;omega
 |c::cs,l=>by
  have ih:=OI cs (EC l (gW c));show(Fj (EC l (gW c)) cs).length<=_
  by_cases hc:full c=true
  ·rw[yx hc,aY];have h1:=JL l (gW c)
   by_cases hm:fo (gW ⟨#[]⟩) l=true
   ·rw[aH (mY.2 (aa3 (mY.1 hm)))] at ih;rw[aH hm];omega
   rw[aA hm]
   split at ih<;>omega
  rw[yw hc]
  have h0:¬0<c.size:=fun e=>hc (bT e)
  obtain rfl:c=⟨#[]⟩:=iJ.1 aJ;rw[aH (mY.2 (YB l _))] at ih
  by_cases hm:fo (gW ⟨#[]⟩) l=true
  ·have e:EC l (gW ⟨#[]⟩)=l:=aH hm;rw[e] at ih⊢;rw[aH hm];exact ih
  have h1:=JL l (gW ⟨#[]⟩);rw[aA hm];omega
theorem Ko:∀l:List bP,((l.map (·.2)).filter full).length<=totalBytes l
 |[]=>ai _
 |x::l=>by
  have ih:=Ko l
  have e:totalBytes (x::l)=x.2.size+totalBytes l:=by
   show(if (fun _:Lit=>false) (jJ x.1)=true then 0 else x.2.size)+_=_;rfl
  rw[e,mJ]
  by_cases hc:full x.2=true
  ·rw[yx hc,aY];have:=fI hc;omega
  rw[yw hc];omega
theorem DW:∀{l:List bP},qg l->∀x∈l,fV l x.1=some x.2
 |[],_,x,hx=>by cases hx
 |y::l,h,x,hx=>by
  have h':=oP.1 h;unfold fV
  rcases bg.1 hx with rfl|hx
  ·rw[aH rfl]
  rw[aA (Fg (h'.1 x hx))];exact DW h'.2 x hx
def BM(r:bY):List ah:=(r.seen.map (·.1)).map fun x=>(dM r x).getD ⟨#[]⟩
variable {r:bY}
theorem Sb(h:qg r.seen):BM r=r.seen.map (·.2):=by
 unfold BM;rw[List.map_map]
 refine qX fun x hx=>?_
 show(dM r x.1).getD _=_;rw[mo,DW h x hx];rfl
theorem WN(h:qg r.seen)(ht:totalBytes r.seen<=65536)(l:List ah)(j:Nat):(Fj l ((BM r).take j)).length<=l.length+65537:=by
 have h1:=OI ((BM r).take j) l
 have h2:(((BM r).take j).filter full).length<=((BM r).filter full).length:=(List.take_sublist j _).filter full|>.length_le
 have h3:=Ko r.seen;rw[Sb h] at h1 h2;rw[Sb h]
 split at h1<;>omega
variable {cs:List ah}{j:Nat}
theorem WO{c:ah}(h:cs[j]?=some c):Fj l (cs.take (j+1))=EC (Fj l (cs.take j)) (gW c):=by
 unfold Fj;rw[dU,h,yZ];rfl
section
open Go.RowKit Go.Maps
theorem Ze(w:ak)(B:Nat)(h:B<=w.heap.size):(w.alloc (.cells #[] 9)).ownsRow B 9 1 (.slice (some ⟨w.heap.size,0,none⟩) 0 0) 0 []:=⟨rfl,aP ⟨w.heap.size,0,#[],rfl,h,bq _ _ _ rfl,ai _,aS _,rfl,rfl⟩⟩
structure sP(w0:ak)(A:Nat->Nat)(a:Nat->Addr)(t:Nat->ah)(left fb wb:Nat)(r:bY)(v:KV)(w:ak)(n:Nat)(A':Nat->Nat)(v':KV)(wr:ak):Prop where
 kw:KW w0 A' a t left fb wb r v' wr
 hA:∀k,k<w.heap.size->A' k=A k
 turns:aW (KF A) w wr
 x:v'.x=v.x
 vt:v'.v 2=v.v 2
 ts:v'.l 2=v.l 2
 len:(v'.l 3).length=(v'.l 4).length
 few:(v'.l 4).length<=n
variable {w0 w wr w2:ak}{A A':Nat->Nat}{a:Nat->Addr}{t:Nat->ah}{left fb wb n:Nat}{v v':KV}
theorem sP.after(h:sP w0 A a t left fb wb r v w n A' v' wr)(hb:nX A' a t left fb r wr w2 A'):sP w0 A a t left fb wb r v w n A' v' w2:=
 ⟨h.kw.keep hb.1 (fun _ _=>rfl) hb.2.2,h.hA,xZ h.hA h.turns (hb.2.2.mono (fun _ e=>aK e)),h.x,h.vt,h.ts,h.len,h.few⟩
theorem sP.below(h:sP w0 A a t left fb wb r v w n A' v' wr)(hb:Below wr.heap.size wr w2):sP w0 A a t left fb wb r v w n A' v' w2:=
 ⟨h.kw.below hb,h.hA,h.turns.trans (aW.of_below (fun _=>False) hb) (fun _ q=>q.elim),h.x,h.vt,h.ts,h.len,h.few⟩
variable {e:Ending}
theorem sP.sum{y:ah}(h:sP w0 A a t left fb wb r v w n A' v' wr)(hs:aa1 w0 A' a t left fb wb r v' y wr e w2):e=.returned (.string (gW y))/\∃A2 v2,sP w0 A a t left fb wb r v w (n+1) A2 v2 w2/\v2.l 4=EC (v'.l 4) (gW y)/\(∀k,k<wr.heap.size->A2 k=A' k)/\aW (KF A') wr w2:=by
 obtain⟨e1,v2,⟨A2,h1,h2,h3⟩,h4,h5,h6,h7,h8⟩:=hs;refine⟨e1,A2,v2,⟨h1,fun k hk=>(h2 k (aB hk h.turns.size)).trans (h.hA k hk),xZ h.hA h.turns h3,h4.trans h.x,h5.trans h.vt,h6.trans h.ts,h7,?_⟩,h8,h2,h3⟩;rw[h8];exact aC (JL _ _) (by have:=h.few;omega)
theorem sP.more{m:Nat}(h:sP w0 A a t left fb wb r v w n A' v' wr)(hm:(v'.l 4).length<=m):sP w0 A a t left fb wb r v w m A' v' wr:={h with few:=hm}
def XH(w0:ak)(A:Nat->Nat)(a:Nat->Addr)(t:Nat->ah)(left fb wb:Nat)(r:bY)(v:KV)(w:ak)(e:Ending)(w':ak):Prop:=e=.returned (.tuple #[])/\∃A' v',sP w0 A a t left fb wb r v w ((v.l 4).length+1400000) A' v' w'
variable {cap:Nat}
theorem YW{ao:Option Addr}{L:Nat}{es:List dA}{e0:dA}{cm:ah}(h:og w (.slice ao L cap) es cs)(he:es[j]?=some e0)(hcm:cs[j]?=some cm):∃g o kE nI cI lM nM cM,ao=some ⟨g,o,none⟩/\w.cell? ⟨g,o+j*6+1,none⟩=some (.slice kE nI cI)/\w.cell? ⟨g,o+j*6+2,none⟩=some (.slice lM nM cM)/\w.cell? ⟨g,o+j*6+5,none⟩=some (.string cm)/\bL w (.slice kE nI cI) e0.ins/\bL w (.slice lM nM cM) e0.impl:=by
 obtain⟨Bo,cap',hv,hrow⟩:=h;injection hv with e1 e2 e3;subst e1 e3;have hj:=(aN.1 he).1
 rcases hrow with q|⟨g,o,rfl,hcells⟩
 ·rw[q] at hj;simp at hj
 obtain⟨vo,vi,vm,vr,⟨d0,d1,d2,d3,d4,d5⟩,UN,MF,tm',UQ⟩:=hcells j e0 cm he hcm
 obtain⟨kE,nI,cI,MB⟩:∃ao n c,vi=.slice ao n c:=by obtain⟨ao,cap,e,_⟩:=MF;exact⟨ao,_,cap,e⟩
 obtain⟨lM,nM,cM,Wl⟩:∃ao n c,vm=.slice ao n c:=by obtain⟨ao,cap,e,_⟩:=tm';exact⟨ao,_,cap,e⟩
 subst MB Wl;exact⟨g,o,kE,nI,cI,lM,nM,cM,rfl,d1,d2,d5,MF,tm'⟩
theorem Ou(h:KW w0 A a t left fb wb r v w)(hn:(v.l 3).length=(v.l 4).length)(hl:(v.l 4).length<=7000000000000):
  Calls Tryz.prog 30 #[.pointer (some ⟨wb,0,none⟩)] w (XH w0 A a t left fb wb r v w):=by
 have HK:=bB h;have HN:=bB hn;have HL:=bB hl
 have c0:w.cell? ⟨wb,0,none⟩=some (.pointer (some ⟨fb,0,none⟩)):=by rw[aj _ _ _ _ _ _ h.row];rfl
 have Vp:=bB (KI h.base)
 have HI:Hid (qg r.seen/\totalBytes r.seen<=65536/\r.seen.length<=900000000000/\sF r.seen):=by
  obtain⟨c,d,hc,_,hI⟩:=h.base.files;exact⟨hI.sorted,hI.total,by have:=hI.Js;omega,hI.Cx⟩
 clear h hn hl
 go_enter Tryz.func30,Tryz.ntmps30
 go_wp2_with fail
 refine Vp.out.mono ?_;rintro e1 w1 ⟨g,hg,hgl,hg0,rfl,hcell,hbe⟩;have Pv:Hid (sP w0 A a t left fb wb r v w (v.l 4).length A v w1):=⟨HK.out.keep hbe.1 hbe.2.1 hbe.2.2,fun _ _=>rfl,hbe.2.2.mono (fun _ e=>aK e),rfl,rfl,rfl,HN.out,ai _⟩;have HC:=aV (aO hgl (aO hg0 hcell));clear hg hgl hg0 hcell hbe Vp c0;generalize hF:r.seen.length=F at*;have HF:=bB hF;clear hF
 have f0:(F:Int)<=900000000000:=by have:=HI.out.2.2.1;omega
 go_wp2_with fail
 go_loopw [3] (fun i wr=>∃(j:Nat) (A':Nat->Nat) (v':KV),i=.int .i64 j/\j<=F/\sP w0 A a t left fb wb r v w ((v.l 4).length+65537) A' v' wr/\v'.l 4=Fj (v.l 4) ((BM r).take j)/\(∀k,k<w1.heap.size->A' k=A k)/\aW (KF A) w1 wr) (fun i _=>F-(intOf i).toNat)
 case atStart=>exact⟨0,A,v,rfl,aS _,Pv.out.more aJ,rfl,fun _ _=>rfl,aW.refl _ _⟩
 case round=>
  obtain⟨j,A',v',rfl,hj,hnt,hv4,hA1,ht1⟩:=hrel;have GZ:=bB hnt;have HV4:=bB hv4;have HT1:=aV (aO hA1 ht1);clear hnt hv4 hA1 ht1
  have j0:(0:Int)<=(j:Int):=aJ
  by_cases hlt:j<F
  ·have j1:(j:Int)<(F:Int):=aJ
   obtain⟨x,hx⟩:∃x,r.seen[j]?=some x:=⟨r.seen[j]'(by have:=HF.out;omega),eB⟩
   have hxn:(r.seen.map (·.1))[j]?=some x.1:=by rw[dS,hx];rfl
   have HX:Hid ((BM r)[j]?=some ((dM r x.1).getD ⟨#[]⟩)/\x.1.size<=65536/\((dM r x.1).getD ⟨#[]⟩).size<=65536):=by
    refine⟨by unfold BM;rw[dS,hxn];rfl,HI.out.2.2.2 x (aU hx),?_⟩;rw[mo,DW HI.out.1 x (aU hx),dm];have h1:=Od r.seen j;have h2:=HI.out.2.1;unfold jY at h1;rw[dx,hx] at h1;exact aC h1 h2
   have dP:Hid (wr.drew.cell? ⟨wb,0,none⟩=some (.pointer (some ⟨fb,0,none⟩))/\wr.drew.cell? ⟨g,j,none⟩=some (.string x.1)):=by
    refine⟨?_,?_⟩
    ·have h:wr.drew.heap[wb]?=_:=GZ.out.kw.row;rw[aj _ _ _ _ _ _ h];rfl
    have h:wr.drew.heap[g]?=w1.heap[g]?:=HT1.out.2.block g HC.out.1 (by unfold KF;rw[HC.out.2.1];omega);rw[aF (w:=w1) (a:=⟨g,j,none⟩) h];exact HC.out.2.2 j x.1 hxn
   have hb5:Below wr.heap.size wr wr.drew:=(ay _ _).drew;have Vq:=bB (GZ.out.below hb5);have CQ:=bB (xI Vq.out.kw.base x.1 (by have:=HX.out.2.1;omega));clear hx hxn hb5;obtain⟨nm,d0⟩:=x;simp only at HX dP CQ;generalize hD:(dM r nm).getD ⟨#[]⟩=D at*;generalize hE:(if (dM r nm).isSome=true then (0:Int) else 2)=E at*
   go_wp2_with fail
   refine dJ (S:=fun w'=>w'.cell? ⟨wb,0,none⟩=some (.pointer (some ⟨fb,0,none⟩))/\w'.cell? ⟨g,j,none⟩=some (.string nm)) dD ?_;change wpAnyH _ _ _ _ _ _ _ _ (World.drew _);refine u3 0 (.pointer (some ⟨wb,0,none⟩)) rfl dP.out<|u3 1 (.pointer (some ⟨wb,0,none⟩)) rfl dP.out<|u3 2 (.pointer (some ⟨wb,0,none⟩)) rfl dP.out<|u3 3 (.pointer (some ⟨fb,0,none⟩)) rfl dP.out<|u3 4 (.slice (some ⟨g,0,none⟩) F F) rfl dP.out<|u3 5 (.int .i64 (j:Nat)) rfl dP.out<|u3 6 (.pointer (some ⟨g,j,none⟩)) rfl dP.out<|u3 7 (.string nm) rfl dP.out ?_
   refine rH 8 rfl fun K hK=>?_
   go_simp;refine CQ.out.mono ?_;rintro e5 w5 ⟨rfl,hb5⟩;have GX:=bB (Vq.out.after hb5);have HT5:Hid (aW (KF A') wr w5):=(aW.of_below (KF A') ((ay wr.heap.size wr).drew)).trans hb5.2.2 (fun _ e=>aK (aK e))
   have Jg:Hid (w5.cell? ⟨wb,0,none⟩=some (.pointer (some ⟨fb,0,none⟩))/\w5.cell? ⟨g,j,none⟩=some (.string nm)):=by
    refine⟨?_,?_⟩
    ·rw[aj _ _ _ _ _ _ GX.out.kw.row];rfl
    have h:w5.heap[g]?=wr.heap[g]?:=HT5.out.block g (aB HC.out.1 HT1.out.2.size) (by unfold KF;rw[HT1.out.1 g HC.out.1,HC.out.2.1];omega);rw[aF (w:=wr) (a:=⟨g,j,none⟩) h];exact dP.out.2
   refine hK.out _ _ Jg.out (fun _=>?_);clear hK K hb5 CQ Vq dP;have dP:=Jg;refine u3 9 (.tuple #[.string D,.int .i64 E]) rfl dP.out<|u3 10 (.string D) rfl dP.out<|u3 11 (.int .i64 E) rfl dP.out<|u3 12 (.string D) rfl dP.out ?_
   refine rH 13 rfl fun K hK=>?_
   go_simp;refine hK.out _ _ dP.out (fun _=>?_);clear hK K;refine eX dD ?_ _;have HSU:=bB (Eo GX.out.kw GX.out.len (by have h1:=GX.out.few;have h2:=HL.out;omega) D (by have:=HX.out.2.2;omega));clear Jg dP
   go_wp2_with fail
   refine HSU.out.mono ?_;intro e6 w6 hs6;obtain⟨he6,A6,v6,hn6,hl6,hA6,ht6⟩:=GX.out.sum hs6;subst he6
   have IG:Hid (sP w0 A a t left fb wb r v w ((v.l 4).length+65537) A6 v6 w6/\v6.l 4=Fj (v.l 4) ((BM r).take (j+1))/\(∀k,k<w1.heap.size->A6 k=A k)/\aW (KF A) w1 w6):=by
    have hq:v6.l 4=Fj (v.l 4) ((BM r).take (j+1)):=by rw[WO HX.out.1,<-HV4.out];exact hl6
    refine⟨hn6.more (by rw[hq];exact WN HI.out.1 HI.out.2.1 _ _),hq,fun k hk=>(hA6 k (aB hk (aC HT1.out.2.size HT5.out.size))).trans (HT1.out.1 k hk),xZ HT1.out.1 HT1.out.2 (xZ (fun _ _=>rfl) HT5.out ht6)⟩
   clear hs6 hn6 hl6 hA6 ht6 HSU GX GZ HT5
   go_wp2_with fail
   exact⟨⟨j+1,A6,v6,oW,aJ,IG.out.1,IG.out.2.1,IG.out.2.2.1,IG.out.2.2.2⟩,by simp[intOf];omega⟩
  obtain rfl:j=F:=aJ
  have aiF:=GZ.out;clear Pv HK HC HV4 HT1 GZ HI HF;have GZ:=bB aiF;clear aiF
  have d1:wr.cell? ⟨wb,1,none⟩=some (.string v.x):=by rw[aj _ _ _ _ _ _ GZ.out.kw.row,<-GZ.out.x];rfl
  have Jf:=bB (Lf v.x a t wr GZ.out.kw.base.gl GZ.out.kw.base.env.pU (by rw[<-GZ.out.x];exact GZ.out.kw.text))
  go_wp2_with fail
  refine Jf.out.mono ?_;rintro e w6 ⟨hend,hb6⟩;have IG:=bB (GZ.out.below hb6);clear Jf hb6 d1
  cases hr:jZ v.x with
  |error bk=>
   rw[hr] at hend;have he:e=.returned (.tuple #[.pointer none,.int .i64 ((BG bk.1:Nat)+1),.int .i64 (bk.2:Nat)]):=hend;subst he;clear hend hr
   have hz:¬(((BG bk.1:Nat):Int)+1=0):=aJ
   generalize ((BG bk.1:Nat):Int)+1=z at*;generalize ((bk.2:Nat):Int)=ln at*
   go_wp2
   first|go_end0|refine bV (eY rfl _ _ _) rfl ?_
   exact⟨rfl,_,_,IG.out.more (by have:=IG.out.few;omega)⟩
  |ok Sc=>
   rw[hr] at hend;obtain⟨S,cs⟩:=Sc;obtain⟨mb,rfl,hk,hso⟩:=hend
   have af4:∀e∈S.bG,e.outs.length<=10000/\e.ins.length<=10000/\e.impl.length<=10000/\e.ord.length<=10000:=fun e he=>by
    have h1:=hso.edge e he;exact⟨by have:=h1.2.2.1;omega,by have:=h1.2.2.2.1;omega,by have:=h1.2.2.2.2.2.2.1;omega,by have:=h1.2.2.2.2.2.2.2;omega⟩
   have HFT:=bB (Dl hr hso);have HED:=Xc hk.now hso.bG af4;have he0:S.bG.length<=64:=hso.bG;clear hk hso hr af4
   go_wp2_with fail
   refine HED.mono ?_;rintro e w7 ⟨vl,c,ds,rfl,hea,Jm⟩;obtain⟨aol,aa8,hvl,_,_⟩:=bE hea.row;subst hvl;have HER:=aV hea.stays;have HN7:=bB (IG.out.below Jm);have HZ7:=aV IG.out.kw.base.above;clear HED hea Jm IG GZ;generalize hEL:S.bG.length=EL at*;have HEL:=bB hEL;clear hEL
   have el0:(EL:Int)<=64:=aJ
   go_wp2_with fail
   go_loopw [10] (fun i wr=>∃(q:Nat) (A8:Nat->Nat) (v8:KV),i=.int .i64 q/\q<=EL/\sP w0 A a t left fb wb r v w ((v.l 4).length+65537+q*20001) A8 v8 wr/\(∀k,k<w7.heap.size->A8 k=A' k)/\aW (KF A') w7 wr) (fun i _=>EL-(intOf i).toNat)
   case atStart=>exact⟨0,A',v',rfl,aS _,HN7.out,fun _ _=>rfl,aW.refl _ _⟩
   case round=>
    obtain⟨p,A8,v8,rfl,hp,hnt,Qo,Ku⟩:=hrel;have GZ:=bB hnt;have Vf:=aV (aO Qo Ku);have HW:Hid (og wr (.slice aol EL aa8) S.bG cs):=HER.out wr Ku.size (fun k h1 h2=>Ku.block k h2 (by unfold KF;rw[HZ7.out k h1];omega));clear hnt Qo Ku
    have p0:(0:Int)<=(p:Int):=aJ
    by_cases hlt:p<EL
    ·have p1:(p:Int)<(EL:Int):=aJ
     obtain⟨e0,he0⟩:∃e,S.bG[p]?=some e:=⟨S.bG[p]'(by rw[HEL.out];exact hlt),eB⟩;obtain⟨cm,hcm⟩:∃c,cs[p]?=some c:=⟨cs[p]'(by rw[HFT.out.len,HEL.out];exact hlt),eB⟩;have HFE:=bB (HFT.out.fit p e0 cm he0 hcm).1;obtain⟨g2,o2,kE,nI,cI,lM,nM,cM,rfl,c1,c2,c5,MF,tm'⟩:=YW HW.out he0 hcm;have CU:=aV (aO MF tm');clear MF tm' he0 hcm HW
     go_wp2_with fail
     refine dJ (S:=fun w'=>Below wr.heap.size wr w') dD ?_;change wpAnyH _ _ _ _ _ _ _ _ (World.drew _);obtain⟨wd,hwd⟩:∃wd,wd=wr.drew:=⟨_,rfl⟩;rw[<-hwd]
     have gX:Hid (Below wr.heap.size wr wd):=by rw[hwd];exact(ay _ _).drew
     clear hwd
     have HQ:Hid (∀w',Below wr.heap.size wr w'->w'.cell? ⟨g2,o2+p*6+1,none⟩=some (.slice kE nI cI)/\w'.cell? ⟨g2,o2+p*6+2,none⟩=some (.slice lM nM cM)):=fun w' h=>⟨(h.cell (p:=⟨g2,o2+p*6+1,none⟩) (aG c1)).trans c1,(h.cell (p:=⟨g2,o2+p*6+2,none⟩) (aG c2)).trans c2⟩
     refine uQ 1 (.slice (some ⟨g2,o2,none⟩) EL aa8) rfl gX.out HQ.out ?_;refine uQ 2 (.int .i64 (p:Nat)) rfl gX.out HQ.out ?_;refine uQ 3 (.pointer (some ⟨g2,o2+p*6,none⟩)) rfl gX.out HQ.out ?_;refine uQ 4 (.pointer (some ⟨g2,o2+p*6+1,none⟩)) rfl gX.out HQ.out ?_;refine uQ 5 (.slice kE nI cI) rfl gX.out HQ.out ?_;refine uQ 7 (.slice (some ⟨g2,o2,none⟩) EL aa8) rfl gX.out HQ.out ?_;refine uQ 8 (.int .i64 (p:Nat)) rfl gX.out HQ.out ?_;refine uQ 9 (.pointer (some ⟨g2,o2+p*6,none⟩)) rfl gX.out HQ.out ?_;refine uQ 10 (.pointer (some ⟨g2,o2+p*6+2,none⟩)) rfl gX.out HQ.out ?_;refine uQ 11 (.slice lM nM cM) rfl gX.out HQ.out ?_
     refine rH 0 rfl fun K hK=>?_
     go_simp;refine hK.out _ _ (gX.out.alloc gX.out.size _) (fun _=>?_);clear hK K;obtain⟨x1,hx1⟩:∃x,x=wd.alloc (.cells #[] 9):=⟨_,rfl⟩;rw[<-hx1]
     have HA1:Hid (x1.ownsRow wr.heap.size 9 1 (.slice (some ⟨wd.heap.size,0,none⟩) 0 0) 0 []):=by rw[hx1];exact Ze wd _ gX.out.size
     have HX1:Hid (Below wr.heap.size wr x1):=by rw[hx1];exact gX.out.alloc gX.out.size _
     clear hx1 gX
     refine rH 6 rfl fun K hK=>?_
     refine yL rfl (.tmp 66) (.tmp 71) rfl wr.heap.size _ 0 [] rfl HA1.out _ e0.ins rfl (CU.out.1.iy HX1.out) (by have:=HFE.out.ins;omega) HX1.out.size ?_;intro aoA cpA x2 h2 hg2 afV;have HA2:=aV h2;have HX2:Hid (Below wr.heap.size wr x2):=HX1.out.grown hg2 HX1.out.size (fun k hk=>(bF HA1.out k hk).1);refine hK.out _ _ HX2.out (fun _=>?_);clear hK K h2 hg2 afV HA1 HX1
     refine rH 12 rfl fun K hK=>?_
     refine yL rfl (.tmp 72) (.tmp 77) rfl wr.heap.size _ (0+e0.ins.length) ([]++e0.ins.map Value.string) rfl HA2.out _ e0.impl rfl (CU.out.2.iy HX2.out) (by have:=HFE.out.ins;have:=HFE.out.impl;omega) HX2.out.size ?_;intro aoB cpB x3 h2 hg2 afV;have HX3:Hid (Below wr.heap.size wr x3):=HX2.out.grown hg2 HX2.out.size (fun k hk=>(bF HA2.out k hk).1);obtain⟨DL,hDL⟩:∃m,m=0+e0.ins.length+e0.impl.length:=⟨_,rfl⟩;rw[<-hDL] at h2
     have Rp:Hid ((fU e0).length=DL/\DL<=20000):=by
      have h3:(fU e0).length=DL:=by unfold fU;rw[hDL,aI];omega
      exact⟨h3,by have:=HFE.out.ins;have:=HFE.out.impl;omega⟩
     have Nz:Hid (x3.ownsRow wr.heap.size 9 1 (.slice aoB DL cpB) (fU e0).length ((fU e0).map Value.string)):=by
      rw[xD,<-iI] at h2;rw[Rp.out.1];exact h2
     refine hK.out _ _ HX3.out (fun _=>?_);rw[<-hDL];clear hK K h2 hg2 afV HA2 HX2 hDL
     refine rH 13 rfl fun K hK=>?_
     go_simp;refine hK.out _ _ HX3.out (fun _=>?_);clear hK K;refine eX dD ?_ _;have HN3:=bB (GZ.out.below HX3.out);have HZ3:=aV GZ.out.kw.base.above;have c53:x3.cell? ⟨g2,o2+p*6+5,none⟩=some (.string cm):=(HX3.out.cell (p:=⟨g2,o2+p*6+5,none⟩) (aG c5)).trans c5;have hcz:=HFE.out.cmd
     have hz1:¬9223372036854775807<cm.size+1:=aJ
     have d0:(DL:Int)<=20000:=by have:=Rp.out.2;omega
     have HT3:Hid ((∀k,k<w7.heap.size->A8 k=A' k)/\aW (KF A') w7 x3):=⟨Vf.out.1,Vf.out.2.trans (aW.of_below (fun _=>False) HX3.out) (fun _ q=>q.elim)⟩;clear c1 c2 c5 GZ HX3 Vf;generalize wr.heap.size=WQ at HZ3 Nz
     go_wp2_with fail
     have HCZ:Hid ((cm++⟨#[0]⟩).size<=1048577):=by show _<=_;rw[aL];show cm.size+1<=_;omega
     generalize hT0:cm++⟨#[0]⟩=T0 at*;clear hT0 c53 hz1 hcz
     go_loopw [12,13] (fun T i wr2=>∃(q:Nat) (Tq:ah) (A9:Nat->Nat) (v9:KV),T=.string Tq/\i=.int .i64 q/\q<=DL/\Tq.size<=1048577+q*65/\sP w0 A a t left fb wb r v w ((v.l 4).length+65537+p*20001+q) A9 v9 wr2/\(∀k,k<x3.heap.size->A9 k=A8 k)/\aW (KF A8) x3 wr2) (fun _ i _=>DL-(intOf i).toNat)
     case atStart=>exact⟨0,T0,A8,v8,rfl,rfl,aS _,HCZ.out,HN3.out,fun _ _=>rfl,aW.refl _ _⟩
     case round=>
      obtain⟨q,Tq,A9,v9,rfl,rfl,hq,hTq,hnt,hA9,ht9⟩:=hrel;have HNQ:=bB hnt;have Pw:=aV (aO hA9 ht9);clear hnt hA9 ht9
      have q0:(0:Int)<=(q:Int):=aJ
      by_cases hlq:q<DL
      ·have q1:(q:Int)<(DL:Int):=aJ
       obtain⟨nm,hnm⟩:∃x,(fU e0)[q]?=some x:=⟨(fU e0)[q]'(by rw[Rp.out.1];exact hlq),eB⟩;have hrow:=Nz.out;rw[Rp.out.1] at hrow;obtain⟨_,_,hf,_,hgB⟩:=bE hrow;obtain⟨gB,hgB⟩:=hgB aJ;injection hf with f1 f2 f3;subst f1;subst hgB;have hcB:=(dV hrow q (.string nm) (by rw[dS,hnm];rfl)).1;have HGB:Hid (WQ<=gB/\gB<x3.heap.size/\x3.cell? ⟨gB,q,none⟩=some (.string nm)/\nm.size<=32):=⟨(bF hrow gB rfl).1,(bF hrow gB rfl).2,hcB,HFE.out.inp nm (aU hnm)⟩;clear hrow f2 f3 hcB hnm
       have Pt:Hid (((dM r nm).getD ⟨#[]⟩).size<=65536):=by
        obtain⟨c,d,_,_,hI⟩:=HNQ.out.kw.base.files;rw[mo]
        cases hfl:fV r.seen nm with
        |none=>exact aS _
        |some dd=>
         have h1:=pV r.seen nm;rw[oK,hfl] at h1;exact aC h1 hI.total
       have dP:Hid (wr.drew.cell? ⟨wb,0,none⟩=some (.pointer (some ⟨fb,0,none⟩))/\wr.drew.cell? ⟨gB,q,none⟩=some (.string nm)):=by
        refine⟨?_,?_⟩
        ·have h:wr.drew.heap[wb]?=_:=HNQ.out.kw.row;rw[aj _ _ _ _ _ _ h];rfl
        have h:wr.drew.heap[gB]?=x3.heap[gB]?:=Pw.out.2.block gB HGB.out.2.1 (by unfold KF;rw[HZ3.out gB HGB.out.1];omega);rw[aF (w:=x3) (a:=⟨gB,q,none⟩) h];exact HGB.out.2.2.1
       have Vq:=bB (HNQ.out.below (ay wr.heap.size wr).drew);have CQ:=bB (xI Vq.out.kw.base nm (by have:=HGB.out.2.2.2;omega));generalize hD:(dM r nm).getD ⟨#[]⟩=D at*;generalize hE:(if (dM r nm).isSome=true then (0:Int) else 2)=E at*
       go_wp2_with fail
       refine dJ (S:=fun w'=>w'.cell? ⟨wb,0,none⟩=some (.pointer (some ⟨fb,0,none⟩))/\w'.cell? ⟨gB,q,none⟩=some (.string nm)) dD ?_;change wpAnyH _ _ _ _ _ _ _ _ (World.drew _);refine u3 0 (.pointer (some ⟨wb,0,none⟩)) rfl dP.out<|u3 1 (.pointer (some ⟨wb,0,none⟩)) rfl dP.out<|u3 2 (.pointer (some ⟨wb,0,none⟩)) rfl dP.out<|u3 3 (.pointer (some ⟨fb,0,none⟩)) rfl dP.out<|u3 4 (.slice (some ⟨gB,0,none⟩) DL cpB) rfl dP.out<|u3 5 (.int .i64 (q:Nat)) rfl dP.out<|u3 6 (.pointer (some ⟨gB,q,none⟩)) rfl dP.out<|u3 7 (.string nm) rfl dP.out ?_
       refine rH 8 rfl fun K hK=>?_
       go_simp;refine CQ.out.mono ?_;rintro e5 w5 ⟨rfl,hb5⟩;have GX:=bB (Vq.out.after hb5);have HT5:Hid (aW (KF A9) wr w5):=(aW.of_below (KF A9) ((ay wr.heap.size wr).drew)).trans hb5.2.2 (fun _ e=>aK (aK e));have ac9:=aV (xZ Pw.out.1 Pw.out.2 HT5.out)
       have Jg:Hid (w5.cell? ⟨wb,0,none⟩=some (.pointer (some ⟨fb,0,none⟩))/\w5.cell? ⟨gB,q,none⟩=some (.string nm)):=by
        refine⟨?_,?_⟩
        ·rw[aj _ _ _ _ _ _ GX.out.kw.row];rfl
        have h:w5.heap[gB]?=x3.heap[gB]?:=ac9.out.block gB HGB.out.2.1 (by unfold KF;rw[HZ3.out gB HGB.out.1];omega);rw[aF (w:=x3) (a:=⟨gB,q,none⟩) h];exact HGB.out.2.2.1
       refine hK.out _ _ Jg.out (fun _=>?_);clear hK K hb5 CQ Vq dP;have dP:=Jg;refine u3 9 (.tuple #[.string D,.int .i64 E]) rfl dP.out<|u3 10 (.string D) rfl dP.out<|u3 11 (.int .i64 E) rfl dP.out<|u3 12 (.string D) rfl dP.out ?_
       refine rH 13 rfl fun K hK=>?_
       go_simp;refine hK.out _ _ dP.out (fun _=>?_);clear hK K;refine eX dD ?_ _;have HSU:=bB (Eo GX.out.kw GX.out.len (by have h1:=GX.out.few;have h2:=HL.out;omega) D (by have:=Pt.out;omega));clear Jg dP
       go_wp2_with fail
       refine HSU.out.mono ?_;intro e6 Xw hs6;obtain⟨he6,A6,v6,hn6,hl6,hA6,ht6⟩:=GX.out.sum hs6;subst he6;have IG:Hid (sP w0 A a t left fb wb r v w ((v.l 4).length+65537+p*20001+(q+1)) A6 v6 Xw/\(∀k,k<x3.heap.size->A6 k=A8 k)/\aW (KF A8) x3 Xw):=⟨hn6,fun k hk=>(hA6 k (aB hk ac9.out.size)).trans (Pw.out.1 k hk),xZ Pw.out.1 ac9.out ht6⟩
       have cB6:Xw.cell? ⟨gB,q,none⟩=some (.string nm):=by
        have h:Xw.heap[gB]?=x3.heap[gB]?:=IG.out.2.2.block gB HGB.out.2.1 (by unfold KF;rw[HZ3.out gB HGB.out.1];omega);rw[aF (w:=x3) (a:=⟨gB,q,none⟩) h];exact HGB.out.2.2.1
       have hs1:nm.size<=32:=HGB.out.2.2.2;have hs2:(gW D).size=32:=kS D;clear hs6 hn6 hl6 hA6 ht6 HSU GX HNQ HT5 ac9;generalize gW D=sd at*
       have hz1:¬9223372036854775807<Tq.size+nm.size:=aJ
       have hz2:¬9223372036854775807<Tq.size+nm.size+1:=aJ
       have hz3:¬9223372036854775807<Tq.size+nm.size+1+sd.size:=aJ
       go_wp2_with fail
       exact⟨⟨q+1,_,A6,v6,rfl,oW,aJ,by simp only[aL];show Tq.size+nm.size+1+sd.size<=_;omega,IG.out.1,IG.out.2.1,IG.out.2.2⟩,by simp[intOf];omega⟩
      obtain rfl:q=DL:=aJ
      have HSU:=bB (Eo HNQ.out.kw HNQ.out.len (by have h1:=HNQ.out.few;have h2:=HL.out;have:=Rp.out.2;omega) Tq (by have:=Rp.out.2;omega))
      go_wp2_with fail
      refine HSU.out.mono ?_;intro e6 Xw hs6;obtain⟨he6,A6,v6,hn6,hl6,hA6,ht6⟩:=HNQ.out.sum hs6;subst he6;have IG:Hid (sP w0 A a t left fb wb r v w ((v.l 4).length+65537+(p+1)*20001) A6 v6 Xw/\(∀k,k<w7.heap.size->A6 k=A' k)/\aW (KF A') w7 Xw):=⟨hn6.more (by have:=hn6.few;have:=Rp.out.2;omega),fun k hk=>(hA6 k (aB hk (aC HT3.out.2.size Pw.out.2.size))).trans ((Pw.out.1 k (aB hk HT3.out.2.size)).trans (HT3.out.1 k hk)),xZ HT3.out.1 HT3.out.2 (xZ Pw.out.1 Pw.out.2 ht6)⟩;clear hs6 hn6 hl6 hA6 ht6 HSU HNQ Pw
      go_wp2_with fail
      exact⟨⟨p+1,A6,v6,oW,aJ,IG.out.1,IG.out.2.1,IG.out.2.2⟩,by simp[intOf];omega⟩
    obtain rfl:p=EL:=aJ
    go_wp2_with fail
    first|go_end0|refine bV (eY rfl _ _ _) rfl ?_
    exact⟨rfl,_,_,GZ.out.more (by have:=GZ.out.few;omega)⟩
structure zL(fb wb ob:Nat)(ya yb:Int)(ys yt x:ah)(vt:Value)(w:ak):Prop where
 b0:w.cell? ⟨wb,0,none⟩=some (.pointer (some ⟨fb,0,none⟩))
 b1:w.cell? ⟨wb,1,none⟩=some (.string x)
 b2:w.cell? ⟨wb,2,none⟩=some vt
 o1:w.cell? ⟨ob,1,none⟩=some (.int .i64 ya)
 o2:w.cell? ⟨ob,2,none⟩=some (.int .i64 yb)
 o3:w.cell? ⟨ob,3,none⟩=some (.string ys)
 o4:w.cell? ⟨ob,4,none⟩=some (.string yt)
structure wY(w0:ak)(A:Nat->Nat)(a:Nat->Addr)(t:Nat->ah)(left fb wb:Nat)(v:KV)(w:ak)(ob:Nat)(row:Array Value)(n:Nat)(r:bY)(A':Nat->Nat)(v':KV)(wr:ak):Prop where
 kw:KW w0 A' a t left fb wb r v' wr
 hA:∀k,k<w.heap.size->A' k=A k
 turns:aW (KF A) w wr
 x:v'.x=v.x
 vt:v'.v 2=v.v 2
 ts:v'.l 2=v.l 2
 len:(v'.l 3).length=(v'.l 4).length
 few:(v'.l 4).length<=(v.l 4).length+n
 op:wr.heap[ob]?=some (.cells row 58 (0,0))
 cop:A' ob=0
theorem wY.start(h:KW w0 A a t left fb wb r v w)(hn:(v.l 3).length=(v.l 4).length)(row:Array Value):wY w0 A a t left fb wb v w w.heap.size row 0 r A v (w.alloc (.cells row 58)):=
 ⟨h.below ((ay _ _).alloc (ai _) _),fun _ _=>rfl,aW.of_below _ ((ay _ _).alloc (ai _) _),rfl,rfl,rfl,hn,aJ,bq _ _ _ rfl,h.base.above _ (ai _)⟩
variable {ob:Nat}
theorem wY.cells{kd ya yb:Int}{ys yt:ah}(h:wY w0 A a t left fb wb v w ob #[.int .i64 kd,.int .i64 ya,.int .i64 yb,.string ys,.string yt] n r A' v' wr):zL fb wb ob ya yb ys yt v.x (v.v 2) wr:=by
 have c:∀i,wr.cell? ⟨wb,i,none⟩=(#[.pointer (some ⟨fb,0,none⟩),.string v'.x,v'.v 2,v'.v 3,v'.v 4,.bool v'.vo]:Array Value)[i]?:=fun i=>aj _ _ _ _ _ _ h.kw.row
 have d:∀i,wr.cell? ⟨ob,i,none⟩=(#[.int .i64 kd,.int .i64 ya,.int .i64 yb,.string ys,.string yt]:Array Value)[i]?:=fun i=>aj _ _ _ _ _ _ h.op
 exact⟨c 0,by rw[<-h.x];exact c 1,by rw[<-h.vt];exact c 2,d 1,d 2,d 3,d 4⟩
variable {left':Nat}{row:Array Value}{r':bY}
theorem wY.base{A2:Nat->Nat}(h:wY w0 A a t left fb wb v w ob row n r A' v' wr)(hb:nX A' a t left' fb r' wr w2 A2):wY w0 A a t left' fb wb v w ob row n r' A2 v' w2:=
 ⟨h.kw.keep hb.1 hb.2.1 hb.2.2,fun k hk=>(hb.2.1 k (aB hk h.turns.size)).trans (h.hA k hk),xZ h.hA h.turns (hb.2.2.mono (fun _ e=>aK e)),h.x,h.vt,h.ts,h.len,h.few,(hb.2.2.block ob (bN h.op) (by rw[h.cop];decide)).trans h.op,(hb.2.1 ob (bN h.op)).trans h.cop⟩
theorem wY.below(h:wY w0 A a t left fb wb v w ob row n r A' v' wr)(hb:Below wr.heap.size wr w2):wY w0 A a t left fb wb v w ob row n r A' v' w2:=
 h.base ⟨h.kw.base.below hb,fun _ _=>rfl,aW.of_below _ hb⟩
theorem wY.note(h:wY w0 A a t left fb wb v w ob row n r A' v' wr)(hb:XH w0 A' a t left fb wb r v' wr e w2):e=.returned (.tuple #[])/\∃A2 v2,wY w0 A a t left fb wb v w ob row (n+1400000) r A2 v2 w2:=by
 obtain⟨he,A2,v2,q⟩:=hb
 have hf:(v2.l 4).length<=(v.l 4).length+(n+1400000):=by
  rw[<-Nat.add_assoc];exact aC q.few (Nat.add_le_add_right h.few _)
 have hlt:=bN h.op;have h2:w2.heap[ob]?=some (.cells row 58 (0,0)):=(q.turns.block ob hlt (by unfold KF;rw[h.cop];decide)).trans h.op;have h3:A2 ob=0:=(q.hA ob hlt).trans h.cop;have h4:aW (KF A) w w2:=xZ h.hA h.turns q.turns
 have h5:∀k,k<w.heap.size->A2 k=A k:=fun k hk=>(q.hA k (aB hk h.turns.size)).trans (h.hA k hk)
 exact⟨he,A2,v2,{kw:=q.kw,hA:=h5,turns:=h4,x:=q.x.trans h.x,vt:=q.vt.trans h.vt,ts:=q.ts.trans h.ts,len:=q.len,few:=hf,op:=h2,cop:=h3}⟩
def tZ(w0:ak)(A:Nat->Nat)(a:Nat->Addr)(t:Nat->ah)(left fb wb:Nat)(v:KV)(w:ak)(e:Ending)(w':ak):Prop:=
 e=.returned (.tuple #[])/\∃r' v',zH w0 A a t left fb wb r' v' w w'/\(v'.l 3).length=(v'.l 4).length/\(v'.l 4).length<=(v.l 4).length+2800000/\(v'.l 2).length<=(v.l 2).length+1
theorem wY.done(h:wY w0 A a t left fb wb v w ob row n r A' v' wr)(hl:left'<=left)(hn:n<=2800000):tZ w0 A a t left' fb wb v w (.returned (.tuple #[])) wr:=
 ⟨rfl,r,v',⟨A',h.kw.less hl,h.hA,h.turns⟩,h.len,by have:=h.few;omega,by rw[h.ts];omega⟩
theorem Zq(c:Int)(w:ak):Calls Tryz.prog 53 #[.int .i64 c,.int .i64 32] w fun e w'=>∃n:Int,n<=9223372036854775807/\e=.returned (.int .i64 n)/\w'=w:=by
 go_enter Tryz.func53,Tryz.ntmps53
 by_cases h:c<0
 all_goals
  go_wp2
  go_ret;refine⟨_,?_,rfl,rfl⟩
  first|omega|exact Int.le_trans (Int.le_of_lt (Int.tmod_lt_of_pos _ bS)) bS
end
end Go.Proofs.YthhbpebihgjpjaaGreatDoor
