import Derived.Test.YthhbpebihgjpjaaGreatDoorZ42
import Derived.Test.YthhbpebihgjpjaaGreatDoorZ43
import Derived.Test.YthhbpebihgjpjaaGreatDoorZ28
import Derived.Test.YthhbpebihgjpjaaGreatDoorZ44
namespace Go.Proofs.YthhbpebihgjpjaaGreatDoor
set_option maxRecDepth 1000000
set_option maxHeartbeats 20000000
set_option linter.all false
section
open Go.RowKit Go.Maps
theorem aaf:JI:=fun _ _ _ _ _ _ _ _ _ _ h=>Fx YV h
theorem OO(t:ah)(a:Nat->Addr)(w:ak)(hg:Gl a w)(ht:t.size<=140737488351232):
  Calls Tryz.prog 46 #[.string t] w fun e w'=>WI a w.heap.size (jZ t) e w'/\Below w.heap.size w w':=by
 have HC:=GI aaf t a w hg ht;clear hg ht
 go_enter Tryz.func46,Tryz.ntmps46
 go_wp2_with fail
 refine HC.mono ?_;rintro e w1 ⟨hend,hb⟩;have HB:=aV hb
 cases hr:jZ t with
 |error bk=>
  rw[hr] at hend;obtain⟨fb,rfl,h0,h1⟩:=hend;have H:=aV (aO h0 h1);clear h0 h1 hb HC
  go_wp2_with fail
  go_ret2;rw[hr];exact⟨⟨fb,rFL,H.out⟩,HB.out⟩
 |ok Sc=>
  rw[hr] at hend;obtain⟨mb,rfl,h⟩:=hend;have H:=aV h;clear h hb HC
  go_wp2_with fail
  go_ret2;rw[hr];exact⟨⟨mb,rfl,H.out⟩,HB.out⟩
def abY(W0:Nat)(r:Except (FO×Nat) (St×List ah))(e:Ending)(w':ak):Prop:=match r with
 |.error bk=>e=.returned (.tuple #[.pointer none,.int .i64 ((BG bk.1:Nat)+1),.int .i64 (bk.2:Nat)])
 |.ok Sc=>∃mb,e=.returned (.tuple #[.pointer (some ⟨mb,0,none⟩),.int .i64 0,.int .i64 (-1)])/\MP W0 Sc.1 Sc.2 mb w'/\SOk Sc.1 0 []
theorem XM(b:FO):BG b<9:=Fin.isLt (show Fin 9 from b)
theorem ZI(w:ak):Calls Tryz.prog 43 #[.nilIface] w fun e w'=>e=.returned (.tuple #[.int .i64 0,.int .i64 (-1)])/\Below w.heap.size w w':=by
 have HB:Hid (Below w.heap.size w w):=ay _ _
 go_enter Tryz.func43,Tryz.ntmps43
 go_wp2
 go_ret2;exact⟨rfl,HB.out⟩
theorem Lf(t:ah)(a:Nat->Addr)(tt:Nat->ah)(w:ak)(hg:Gl a w)(hS:uR a tt w)(ht:t.size<=140737488351232):
  Calls Tryz.prog 24 #[.string t] w fun e w'=>abY w.heap.size (jZ t) e w'/\Below w.heap.size w w':=by
 have HC:=OO t a w hg ht;have HS:=aV hS;clear hg ht hS
 go_enter Tryz.func24,Tryz.ntmps24
 go_wp2_with fail
 refine HC.mono ?_;rintro e w1 ⟨hend,hb⟩;have HB:=aV hb
 cases hr:jZ t with
 |error bk=>
  rw[hr] at hend;obtain⟨fb,rfl,h0,h1⟩:=hend;have HN:=Fp a tt (BG bk.1) (XM _) fb 0 w1 (HS.out.below hb) h0 h1;clear h0 h1 hb HC
  go_wp2_with fail
  refine HN.mono ?_;rintro e w2 ⟨rfl,hb2⟩;have HB2:=aV (HB.out.trans (hb2.mono HB.out.size));clear hb2 HN
  go_wp2_with fail
  go_ret3;rw[hr];exact⟨rfl,HB2.out⟩
 |ok Sc=>
  rw[hr] at hend;obtain⟨mb,rfl,h⟩:=hend;have H:=aV h;have HN:=ZI w1;clear h hb HC
  go_wp2_with fail
  refine HN.mono ?_;rintro e w2 ⟨rfl,hb2⟩;have HB2:=aV (HB.out.trans (hb2.mono HB.out.size));have HM2:Hid (MP w.heap.size Sc.1 Sc.2 mb w2/\SOk Sc.1 0 []):=⟨H.out.1.below hb2,H.out.2⟩;clear hb2 HN
  go_wp2_with fail
  go_ret3;rw[hr];exact⟨⟨mb,rfl,HM2.out⟩,HB2.out⟩
end
structure zK(S:St):Prop where
 edge:∀e∈S.bG,e.outs≠[]/\(∀x∈e.outs,x.size<=32)/\∀x∈eO e,x.size<=32
 once:(S.bG.flatMap (·.outs)).Nodup
 defs:∀x∈S.defs,x.size<=32
theorem Ir:∀(os M:List ah),sO M os=false->os.Nodup/\∀x∈os,x∉M
 |[],M,_=>⟨DC,fun x hx=>by cases hx⟩
 |o::os,M,h=>by
  unfold sO at h;rw[Bool.or_eq_false_iff] at h;have ih:=Ir os (o::M) h.2
  have h1:o∉M:=fun q=>by rw[mY.2 q] at h;cases h.1
  refine⟨nC.2 ⟨fun q=>ih.2 o q (aQ ..),ih.1⟩,fun x hx=>?_⟩
  rcases bg.1 hx with rfl|hx
  ·exact h1
  exact fun q=>ih.2 x hx (aZ _ q)
variable {S:St}{outs ins:jm}
theorem zK.PS{u:ah}{rule:ah}{own:iH}{ms1 ms2:List ah}(h:zK S)(h1:qy ms1 outs)(h2:qy ms2 ins)(hb:oV S outs ins u=none):zK {S with bG:=S.bG++[vv outs ins rule own]}:=by
 unfold oV at hb
 split at hb
 ·cases hb
 rename_i hc1
 split at hb
 ·cases hb
 split at hb
 ·cases hb
 split at hb
 ·cases hb
 split at hb
 ·cases hb
 rename_i hc5
 have hne:iL outs≠[]:=fun e=>hc1 (aK e)
 have SX:=Ir _ _ (yX.2 hc5);refine⟨fun e he=>?_,?_,h.defs⟩
 ·rcases bQ.1 he with he|he
  ·exact h.edge e he
  obtain rfl:=bD.1 he;refine⟨fun e=>hne (List.append_eq_nil_iff.1 e).1,fun x hx=>?_,fun x hx=>?_⟩
  ·rcases bQ.1 (show x∈iL outs++fF outs oI from hx) with hx|hx
   ·exact uy h1 x hx
   exact vI h1 _ x hx
  rcases bQ.1 (show x∈iL ins++(fF ins oI++fF ins wC) from hx) with hx|hx
  ·exact uy h2 x hx
  rcases bQ.1 hx with hx|hx
  ·exact vI h2 _ x hx
  exact vI h2 _ x hx
 show((S.bG++[vv outs ins rule own]).flatMap (·.outs)).Nodup;rw[lC,nk];refine⟨h.once,?_,fun x hx y hy e=>?_⟩
 ·simpa[vv] using SX.1
 subst e;exact SX.2 x (by simpa[vv] using hy) hx
variable {no:Nat}{t:ah}{rest rest':List dQ}{S':St}
theorem zK.stmt(hS:zK S)(h:qZ S no t rest=.ok (S',rest')):zK S':=by
 unfold qZ at h
 split at h
 ·cases h
 split at h
 ·unfold wz at h
  split at h
  ·cases h
  split at h
  ·cases h
  split at h
  ·cases h
  split at h
  ·cases h
  split at h
  ·cases h
  split at h
  ·cases h
  injection h with h;obtain⟨rfl,_⟩:=Prod.mk.inj h;exact⟨hS.edge,hS.once,hS.defs⟩
 split at h
 ·unfold kZ at h
  split at h
  ·cases h
  split at h
  ·cases h
  rename_i outs ho
  split at h
  ·cases h
  rename_i ins hi
  split at h
  ·cases h
  rename_i hb
  split at h
  ·cases h
  injection h with h;obtain⟨rfl,_⟩:=Prod.mk.inj h;exact hS.PS (xK ho).1 (xK hi).1 hb
 split at h
 ·unfold oq at h
  split at h
  ·cases h
  rename_i A hA
  split at h
  ·cases h
  injection h with h;obtain⟨rfl,_⟩:=Prod.mk.inj h;refine⟨hS.edge,hS.once,fun x hx=>?_⟩
  rcases bQ.1 hx with hx|hx
  ·exact hS.defs x hx
  exact uy (xK hA).1 x hx
 unfold Nw at h
 split at h
 ·cases h
 split at h
 ·cases h
 injection h with h;obtain⟨rfl,_⟩:=Prod.mk.inj h;exact⟨hS.edge,hS.once,hS.defs⟩
theorem zK.run:∀(g:Nat) (S:St) (ls:List dQ) (S':St),zK S->Bp g S ls=.ok S'->zK S'
 |0,S,ls,S',hS,h=>by injection h with h;subst h;exact hS
 |_+1,S,[],S',hS,h=>by injection h with h;subst h;exact hS
 |g+1,S,x::rest,S',hS,h=>by
  unfold Bp at h
  split at h
  ·cases h
  rename_i Sr hq
  exact zK.run g Sr.1 Sr.2 S' (hS.stmt hq) h
variable {cs:List ah}
theorem zw(h:jZ t=.ok (S,cs)):zK S:=by
 unfold jZ at h
 split at h
 ·cases h
 split at h
 ·cases h
 rename_i S' hr
 split at h
 ·cases h
 injection h with h;obtain⟨rfl,_⟩:=Prod.mk.inj h;have h0:zK St.none:=⟨fun e he=>(by cases he),DC,fun x hx=>(by cases hx)⟩;exact zK.run _ _ _ _ h0 hr
theorem Dn(h:jZ t=.ok (S,cs))(hS:SOk S 0 []):aa0 S:=by
 have hk:=zw h;refine⟨hS.bG,fun e he=>?_,hk.once,by have:=hS.defs;omega,hk.defs⟩;have h1:=hS.edge e he;have h2:=hk.edge e he;exact⟨by have:=h1.2.2.1;omega,by have:=h1.2.2.2.1;omega,by have:=h1.2.2.2.2.2.2.1;omega,by have:=h1.2.2.2.2.2.2.2;omega,h2.2.1,h2.2.2⟩
variable {es:List dA}{p:Nat}
theorem OE{e:dA}(h:es[p]?=some e):(jh es).getD p []=Ih es e:=by
 unfold jh;rw[dx,dS,h];rfl
theorem vK(es:List dA):(jh es).length=es.length:=by unfold jh;simp
theorem WK{q:Nat}(h:p∈(jh es).getD q []):∃e,es[q]?=some e/\∃x∈eO e,fK es x=some p:=by
 cases he:es[q]? with
 |none=>
  unfold jh at h;rw[dx,dS,he] at h
  cases h
 |some e=>
  rw[OE he] at h;obtain⟨x,hx,hm⟩:=jw.1 h;exact⟨e,rfl,x,hx,hm⟩
structure adk(S:St)(ts:List ah)(o:List Nat):Prop where
 lt:∀p∈o,p<S.bG.length
 nd:o.Nodup
 ahead:∀i p e,o[i]?=some p->S.bG[p]?=some e->∀x∈eO e,∀m,fK S.bG x=some m->m∈o.take i
 goals:∀x∈wO S ts,∃p,fK S.bG x=some p/\p∈o
 want:∀p∈o,(∃x∈wO S ts,fK S.bG x=some p)\/∃q∈o,∃e,S.bG[q]?=some e/\∃x∈eO e,fK S.bG x=some p
variable {o:List Nat}
theorem La{ts:List ah}(h:wR S ts=.ok o):adk S ts o:=by
 unfold wR at h
 split at h
 ·rename_i hrun
  have hN:=OG S.bG
  have hrun':zU (jh S.bG) (List.range (jh S.bG).length) (jT (jh S.bG).length) []=true:=by rw[vK];exact hrun
  obtain⟨r,hr⟩:=Ls hN hrun'
  split at h
  ·cases h
  rename_i o' hw
  injection h with h;subst h;rw[<-vK S.bG] at hw;obtain⟨s',h1,h2,_⟩:=Iz (G:=fun p=>∃x∈wO S ts,fK S.bG x=some p) hr (wO S ts) _ _ o' (Ml _ hN) (fun x hx p hp=>⟨by rw[vK];exact Gv hp,x,hx,hp⟩) hw;refine⟨fun p hp=>?_,h1.nd,fun i p e hi he x hx m hm=>?_,h2,fun p hp=>?_⟩
  ·have h3:=(h1.two p).2 hp
   rcases bX p S.bG.length with c|c
   ·exact c
   rw[dx,gU (by rw[h1.fits.len,vK];exact c)] at h3
   cases h3
  ·refine h1.ahead i p hi m ?_;rw[OE he];exact jw.2 ⟨x,hx,hm⟩
  rcases h1.want p (aK hp) with g|⟨q,hq,hpq⟩
  ·exact aK g
  refine aP ⟨q,?_,WK hpq⟩
  rcases hq with hq|hq
  ·exact hq
  cases hq
 cases h
section
open Go.RowKit Go.Maps
variable {x:ah}
theorem AV{y:ah}:(x.toList==y.toList)=decide (x=y):=by
 cases hq:(x.toList==y.toList) with
 |true=>exact(bT (xL hq)).symm
 |false=>exact(bM (fun e=>by rw[e] at hq;simp at hq)).symm
end
def wI(s:jm):Prop:=∀x∈s,∀y∈x.2,mP y=true
variable {s:jm}
theorem wI.add(h:wI s){p:ah}(hp:mP p=true):wI (uh s p):=by
 unfold uh
 split
 ·exact h
 rename_i x hx
 intro y hy z hz
 rcases bQ.1 hy with hy|hy
 ·exact h y (List.dropLast_subset _ hy) z hz
 obtain rfl:=bD.1 hy
 rcases bQ.1 hz with hz|hz
 ·exact h x (List.mem_of_getLast? hx) z hz
 obtain rfl:=bD.1 hz;exact hp
variable {E:ah->ah}
theorem abX{p:ah}(h:qY E t=.ok p):mP p=true:=by
 unfold qY at h
 split at h
 ·cases h
 split at h
 ·rename_i hk
  injection h with h;subst h;exact hk
 cases h
theorem AJ(E:ah->ah)(ms:List ah):∀(g:Nat) (u:ah) (a s:jm),jN E ms g u a=.ok s->wI a->wI s
 |0,u,a,s,h,ha=>by
  rw[jN] at h;injection h with h;subst h;exact ha
 |g+1,u,a,s,h,ha=>by
  rw[jN] at h
  by_cases h0:(bI u).size=0
  ·rw[aH h0] at h;injection h with h;subst h;exact ha
  rw[aA h0] at h
  by_cases hm:jM (bI u)=⟨#[]⟩
  ·rw[aH hm] at h
   cases hq:qY E ((bI u).extract 0 (kP (bI u))) with
   |error e=>rw[hq] at h;cases h
   |ok p=>
    rw[hq] at h;exact AJ E ms g _ _ s h (ha.add (abX hq))
  rw[aA hm] at h
  by_cases hb:fo (jM (bI u)) ms=true
  ·rw[aH hb] at h;refine AJ E ms g _ _ s h (fun x hx y hy=>?_)
   rcases bQ.1 hx with hx|hx
   ·exact ha x hx y hy
   obtain rfl:=bD.1 hx
   cases hy
  rw[aA hb] at h
  cases h
theorem OP{ms:List ah}(h:nP E ms t=.ok s):wI s:=
 AJ E ms _ t _ s h (fun x hx y hy=>by obtain rfl:=bD.1 hx;cases hy)
theorem wI.first(h:wI s):∀y∈iL s,mP y=true:=by
 cases s with
 |nil=>intro y hy;cases hy
 |cons x s=>exact fun y hy=>h x (aQ ..) y hy
theorem wI.behind(h:wI s)(m:ah):∀y∈fF s m,mP y=true:=by
 unfold fF
 cases hf:s.find? (fun x=>decide (x.1=m)) with
 |none=>intro y hy;cases hy
 |some x=>exact fun y hy=>h x (pY hf) y hy
def Af(e:dA):Prop:=(∀x∈e.outs,mP x=true)/\∀x∈eO e,mP x=true
theorem YU(h1:wI outs)(h2:wI ins)(rule:ah)(own:iH):Af (vv outs ins rule own):=by
 refine⟨fun x hx=>?_,fun x hx=>?_⟩
 ·rcases bQ.1 (show x∈iL outs++fF outs oI from hx) with hx|hx
  ·exact h1.first x hx
  exact h1.behind _ x hx
 rcases bQ.1 (show x∈iL ins++(fF ins oI++fF ins wC) from hx) with hx|hx
 ·exact h2.first x hx
 rcases bQ.1 hx with hx|hx
 ·exact h2.behind _ x hx
 exact h2.behind _ x hx
def Aj(S:St):Prop:=(∀e∈S.bG,Af e)/\S.bG.length<=64
theorem Aj.stmt(hS:Aj S)(h:qZ S no t rest=.ok (S',rest')):Aj S':=by
 unfold qZ at h
 split at h
 ·cases h
 split at h
 ·unfold wz at h
  split at h
  ·cases h
  split at h
  ·cases h
  split at h
  ·cases h
  split at h
  ·cases h
  split at h
  ·cases h
  split at h
  ·cases h
  injection h with h;obtain⟨rfl,_⟩:=Prod.mk.inj h;exact hS
 split at h
 ·unfold kZ at h
  split at h
  ·cases h
  split at h
  ·cases h
  rename_i outs ho
  split at h
  ·cases h
  rename_i ins hi
  split at h
  ·cases h
  rename_i hb
  split at h
  ·cases h
  injection h with h;obtain⟨rfl,_⟩:=Prod.mk.inj h;refine⟨fun e he=>?_,?_⟩;rotate_left
  ·show(S.bG++[_]).length<=64;unfold oV at hb
   split at hb
   ·cases hb
   split at hb
   ·cases hb
   split at hb
   ·cases hb
   rw[aI];show S.bG.length+1<=64;omega
  rcases bQ.1 he with he|he
  ·exact hS.1 e he
  obtain rfl:=bD.1 he;exact YU (OP ho) (OP hi) _ _
 split at h
 ·unfold oq at h
  split at h
  ·cases h
  split at h
  ·cases h
  injection h with h;obtain⟨rfl,_⟩:=Prod.mk.inj h;exact hS
 unfold Nw at h
 split at h
 ·cases h
 split at h
 ·cases h
 injection h with h;obtain⟨rfl,_⟩:=Prod.mk.inj h;exact hS
theorem Aj.run:∀(g:Nat) (S:St) (ls:List dQ) (S':St),Aj S->Bp g S ls=.ok S'->Aj S'
 |0,S,ls,S',hS,h=>by injection h with h;subst h;exact hS
 |_+1,S,[],S',hS,h=>by injection h with h;subst h;exact hS
 |g+1,S,x::rest,S',hS,h=>by
  unfold Bp at h
  split at h
  ·cases h
  rename_i Sr hq
  exact Aj.run g Sr.1 Sr.2 S' (hS.stmt hq) h
theorem BU(h:jZ t=.ok (S,cs)):Aj S:=by
 unfold jZ at h
 split at h
 ·cases h
 split at h
 ·cases h
 rename_i S' hr
 split at h
 ·cases h
 injection h with h;obtain⟨rfl,_⟩:=Prod.mk.inj h;exact Aj.run _ _ _ _ ⟨fun e he=>(by cases he),aS _⟩ hr
variable {x:ah}
theorem WG(h:fK es x=some p):∃e,es[p]?=some e/\x∈e.outs:=by
 unfold fK at h;obtain⟨hlt,h1,_⟩:=XF.1 h;exact⟨es[p],eB,mY.1 h1⟩
theorem Ee:∀{es:List dA} {p q:Nat} {e f:dA} {x:ah},(es.flatMap (·.outs)).Nodup->es[p]?=some e->es[q]?=some f->x∈e.outs->x∈f.outs->p=q
 |[],p,q,e,f,x,_,h,_,_,_=>by simp at h
 |y::es,0,0,e,f,x,_,_,_,_,_=>rfl
 |y::es,0,q+1,e,f,x,hn,he,hf,hx,hz=>by
  rw[ng,nk] at hn
  obtain rfl:y=e:=by simpa using he
  exact absurd rfl (hn.2.2 x hx x (IK.2 ⟨f,aU (by simpa using hf),hz⟩))
 |y::es,p+1,0,e,f,x,hn,he,hf,hx,hz=>by
  rw[ng,nk] at hn
  obtain rfl:y=f:=by simpa using hf
  exact absurd rfl (hn.2.2 x hz x (IK.2 ⟨e,aU (by simpa using he),hx⟩))
 |y::es,p+1,q+1,e,f,x,hn,he,hf,hx,hz=>by
  rw[ng,nk] at hn;exact ig Nat.succ (Ee hn.2.1 (show es[p]?=some e by simpa using he) (show es[q]?=some f by simpa using hf) hx hz)
theorem ZL{n:Nat}(hnd:o.Nodup)(hlt:∀p∈o,p<n):o.length<=n:=by
 have:=hnd.length_le_of_subset (l₂:=List.range n) (fun p hp=>kW.2 (hlt p hp))
 rwa [List.length_range] at this
end Go.Proofs.YthhbpebihgjpjaaGreatDoor
