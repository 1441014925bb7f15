import Derived.Test.YthhbpebihgjpjaaGreatDoorZ20
import Derived.Laws.AppendOwnNone
namespace Go.Proofs.YthhbpebihgjpjaaGreatDoor
set_option maxRecDepth 1000000
set_option maxHeartbeats 20000000
set_option linter.all false
section
open Go.RowKit
variable {w:ak}
theorem GL(ty:TypeId)(B:Nat)(v:Value)(n:Nat)(ds:List Value)(hown:w.ownsRow B 9 1 v n ds)(x:Value)(l:List ah)(hx:bL w x l)(hle:n+l.length<=100000000)(hb:B<=w.heap.size):∃Bo cap' w',(Builtin.append_ #[32,32] ty #[v,x]).run Tryz.prog w=.ok (.slice Bo (n+l.length) cap') w'/\w'.ownsRow B 9 1 (.slice Bo (n+l.length) cap') (n+l.length) (ds++l.map Value.string)/\w.grownBy w' v.ownBlock/\∀k,(Value.slice Bo (n+l.length) cap').ownBlock=some k->v.ownBlock=some k\/w.heap.size<=k:=by
 have hinf:(Tryz.prog.info? 9).map (fun i=>(i.size,i.bytes,i.zero))=some (1,16,some (.string ⟨#[]⟩)):=dD
 obtain⟨ti,hti,htj⟩:=bA.1 hinf;simp only[Prod.mk.injEq] at htj;obtain⟨ao,cap,rfl,hc,hh⟩:=hx
 have main:∀b o,ao=some ⟨b,o,none⟩->(∀k s,l[k]?=some s->w.cell? ⟨b,o+k,none⟩=some (.string s))->∃Bo cap' w',(Builtin.append_ #[32,32] ty #[v,.slice ao l.length cap]).run Tryz.prog w=.ok (.slice Bo (n+l.length) cap') w'/\w'.ownsRow B 9 1 (.slice Bo (n+l.length) cap') (n+l.length) (ds++l.map Value.string)/\w.grownBy w' v.ownBlock/\∀k,(Value.slice Bo (n+l.length) cap').ownBlock=some k->v.ownBlock=some k\/w.heap.size<=k:=by
  intro b o hao hcell;subst hao
  obtain⟨v',w',hr,h2,h3,_,h5⟩:=run_append_own_at (P:=Tryz.prog) w B 32 ty 9 ti (.string ⟨#[]⟩) 1 16 Tryz.underlying32 hti htj.2.2 htj.1 htj.2.1 rfl bS v n ds hown ⟨b,o,none⟩ l.length cap (l.map Value.string) (by rw[jV];omega) (fun j u hu=>by
   have hadd:(⟨b,o,none⟩:Addr).add j=⟨b,o+j,none⟩:=by unfold Addr.add;split<;>simp_all
   rw[dS] at hu;obtain⟨y,hy,rfl⟩:=bA.1 hu
   rw[hadd];exact hcell j y hy) (by intro u hu;obtain⟨y,_,rfl⟩:=fP.1 hu;rfl) (by unfold maxLen;omega) aJ hb
  obtain⟨Bo,cap',rfl,_,_⟩:=bE h2;refine⟨Bo,cap',w',hr,h2,h3,fun k hk=>?_⟩
  rcases h5 with h5|h5
  ·exact aK (by rw[<-h5];exact hk)
  rw[hk] at h5;have:=ax h5;exact aP aJ
 rcases hh with ⟨h0,rfl,_⟩|⟨b,o,rfl,hcell⟩
 ·cases ao with
  |none=>
   obtain rfl:=h0 rfl;obtain⟨Bo,cap',rfl,_,_⟩:=bE hown;refine⟨Bo,cap',w,run_append_owned_none (P:=Tryz.prog) (w:=w) B 32 ty 9 ti 1 Tryz.underlying32 hti _ n ds hown,?_,⟨rfl,rfl,rfl,ai _,fun _ _ _=>rfl⟩,fun k hk=>aK hk⟩;rw[CV,fM];exact hown
  |some a=>
   obtain⟨b,o,f⟩:=a;obtain⟨v',w',hr,h2,h3,_,h5⟩:=run_append_own_at (P:=Tryz.prog) w B 32 ty 9 ti (.string ⟨#[]⟩) 1 16 Tryz.underlying32 hti htj.2.2 htj.1 htj.2.1 rfl bS v n ds hown ⟨b,o,f⟩ 0 cap [] rfl (fun j u hu=>by simp at hu) (fun u hu=>by cases hu) (by unfold maxLen;simp at hle;omega) (by simp at hle;omega) hb;obtain⟨Bo,cap',rfl,_,_⟩:=bE h2;refine⟨Bo,cap',w',hr,h2,h3,fun k hk=>?_⟩
   rcases h5 with h5|h5
   ·exact aK (by rw[<-h5];exact hk)
   have hk':(Value.slice Bo (n+0) cap').ownBlock=some k:=hk;rw[hk'] at h5;have:=ax h5;exact aP aJ
 exact main b o rfl hcell
variable {o:Oper}
theorem Je{w:ak}{a:Act}{K:Act->ak->Prop}{Q:Exit->Act->ak->Prop}(s x:Operand)
  (ho:o.op=.call {callee:=.builtin .append,args:=#[s,x],argTypes:=#[32,32]}) (B:Nat) (v:Value) (n:Nat) (ds:List Value) (hs:a.eval s=v) (hown:w.ownsRow B 9 1 v n ds) (vx:Value) (l:List ah) (hx:a.eval x=vx) (hxl:bL w vx l) (hle:n+l.length<=100000000) (hb:B<=w.heap.size)
  (h:∀Bo cap' w',w'.ownsRow B 9 1 (.slice Bo (n+l.length) cap') (n+l.length) (ds++l.map Value.string)->w.grownBy w' v.ownBlock->(∀k,(Value.slice Bo (n+l.length) cap').ownBlock=some k->v.ownBlock=some k\/w.heap.size<=k)->K (a.put o.dst (.slice Bo (n+l.length) cap')) w'):o.wp Tryz.prog a w K Q:=by
 obtain⟨Bo,cap',w',hr,h2,h3,h4⟩:=GL o.type B v n ds hown vx l hxl hle hb;unfold Oper.wp execOp;simp only[ho,resolve,invoke,builtin,NK,Sem.run_pure,Result.andThen_ok,List.map_toArray,mJ,CV,hs,hx,hr];exact h Bo cap' w' h2 h3 h4
theorem yL{w:ak}{ops:Array Oper}{a:Act}{K:Act->ak->Prop}{Q:Exit->Act->ak->Prop}{E:Prop}(hgd:o.guard=none)(s x:Operand)
  (ho:o.op=.call {callee:=.builtin .append,args:=#[s,x],argTypes:=#[32,32]}) (B:Nat) (v:Value) (n:Nat) (ds:List Value) (hs:a.eval s=v) (hown:w.ownsRow B 9 1 v n ds) (vx:Value) (l:List ah) (hx:a.eval x=vx) (hxl:bL w vx l) (hle:n+l.length<=100000000) (hb:B<=w.heap.size)
  (h:∀Bo cap' w',w'.ownsRow B 9 1 (.slice Bo (n+l.length) cap') (n+l.length) (ds++l.map Value.string)->w.grownBy w' v.ownBlock->(∀k,(Value.slice Bo (n+l.length) cap').ownBlock=some k->v.ownBlock=some k\/w.heap.size<=k)->K (a.put o.dst (.slice Bo (n+l.length) cap')) w'):if Region.wanted o (yielded ops a.tmps)=true then Oper.wp Tryz.prog o a w K Q else E:=by
 have hw:Region.wanted o (yielded ops a.tmps)=true:=by simp[Region.wanted,hgd]
 rw[aH hw];exact Je s x ho B v n ds hs hown vx l hx hxl hle hb h
end
end Go.Proofs.YthhbpebihgjpjaaGreatDoor
