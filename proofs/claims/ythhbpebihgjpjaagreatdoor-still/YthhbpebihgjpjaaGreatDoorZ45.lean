import Derived.Test.YthhbpebihgjpjaaGreatDoorZ42
import Derived.Test.YthhbpebihgjpjaaGreatDoorZ43
import Derived.Test.YthhbpebihgjpjaaGreatDoorZ28
import Derived.Test.YthhbpebihgjpjaaGreatDoorZ44
namespace Go.Proofs.YthhbpebihgjpjaaGreatDoor
set_option maxRecDepth 1000000
set_option maxHeartbeats 20000000
set_option linter.all false
section
open Go.RowKit Go.Maps
theorem aae:JG:=fun _ _ _ _ _ _ _ _ _ _ h=>Fw YU h
theorem OJ(t:ah)(a:Nat->Addr)(w:aj)(hg:Gl a w)(ht:t.size<=140737488351232):
  Calls Tryz.prog 46 #[.string t] w fun e w'=>WH a w.heap.size (jV t) e w'/\Below w.heap.size w w':=by
 have HC:=GH aae t a w hg ht;clear hg ht
 go_enter Tryz.func46,Tryz.ntmps46
 go_wp2_with fail
 refine HC.mono ?_;rintro e w1 ⟨hend,hb⟩;have HB:=aP hb
 cases hr:jV t with
 |error bk=>
  rw[hr] at hend;obtain⟨fb,rfl,h0,h1⟩:=hend;have H:=aP (aK h0 h1);clear h0 h1 hb HC
  go_wp2_with fail
  go_ret2;rw[hr];exact⟨⟨fb,by rfl,H.out⟩,HB.out⟩
 |ok Sc=>
  rw[hr] at hend;obtain⟨mb,rfl,h⟩:=hend;have H:=aP h;clear h hb HC
  go_wp2_with fail
  go_ret2;rw[hr];exact⟨⟨mb,rfl,H.out⟩,HB.out⟩
def abW(W0:Nat)(r:Except (FM×Nat) (St×List ah))(e:Ending)(w':aj):Prop:=match r with
 |.error bk=>e=.returned (.tuple #[.pointer none,.int .i64 ((BD bk.1:Nat)+1),.int .i64 (bk.2:Nat)])
 |.ok Sc=>∃mb,e=.returned (.tuple #[.pointer (some ⟨mb,0,none⟩),.int .i64 0,.int .i64 (-1)])/\MQ W0 Sc.1 Sc.2 mb w'/\SOk Sc.1 0 []
theorem XK(b:FM):BD b<9:=Fin.isLt (show Fin 9 from b)
theorem ZH(w:aj):Calls Tryz.prog 43 #[.nilIface] w fun e w'=>e=.returned (.tuple #[.int .i64 0,.int .i64 (-1)])/\Below w.heap.size w w':=by
 have HB:Hid (Below w.heap.size w w):=au _ _
 go_enter Tryz.func43,Tryz.ntmps43
 go_wp2
 go_ret2;exact⟨rfl,HB.out⟩
theorem Lf(t:ah)(a:Nat->Addr)(tt:Nat->ah)(w:aj)(hg:Gl a w)(hS:uN a tt w)(ht:t.size<=140737488351232):
  Calls Tryz.prog 24 #[.string t] w fun e w'=>abW w.heap.size (jV t) e w'/\Below w.heap.size w w':=by
 have HC:=OJ t a w hg ht;have HS:=aP hS;clear hg ht hS
 go_enter Tryz.func24,Tryz.ntmps24
 go_wp2_with fail
 refine HC.mono ?_;rintro e w1 ⟨hend,hb⟩;have HB:=aP hb
 cases hr:jV t with
 |error bk=>
  rw[hr] at hend;obtain⟨fb,rfl,h0,h1⟩:=hend;have HN:=Fj a tt (BD bk.1) (XK _) fb 0 w1 (HS.out.below hb) h0 h1;clear h0 h1 hb HC
  go_wp2_with fail
  refine HN.mono ?_;rintro e w2 ⟨rfl,hb2⟩;have HB2:=aP (HB.out.trans (hb2.mono HB.out.size));clear hb2 HN
  go_wp2_with fail
  go_ret3;rw[hr];exact⟨rfl,HB2.out⟩
 |ok Sc=>
  rw[hr] at hend;obtain⟨mb,rfl,h⟩:=hend;have H:=aP h;have HN:=ZH w1;clear h hb HC
  go_wp2_with fail
  refine HN.mono ?_;rintro e w2 ⟨rfl,hb2⟩;have HB2:=aP (HB.out.trans (hb2.mono HB.out.size));have HM2:Hid (MQ w.heap.size Sc.1 Sc.2 mb w2/\SOk Sc.1 0 []):=⟨H.out.1.below hb2,H.out.2⟩;clear hb2 HN
  go_wp2_with fail
  go_ret3;rw[hr];exact⟨⟨mb,rfl,HM2.out⟩,HB2.out⟩
end
structure zI(S:St):Prop where
 edge:∀e∈S.bB,e.outs≠[]/\(∀x∈e.outs,x.size<=32)/\∀x∈dZ e,x.size<=32
 once:(S.bB.flatMap (·.outs)).Nodup
 defs:∀x∈S.defs,x.size<=32
theorem Iq:∀(os M:List ah),sK M os=false->os.Nodup/\∀x∈os,x∉M
 |[],M,_=>⟨Dz,fun x hx=>by cases hx⟩
 |o::os,M,h=>by
  unfold sK at h;rw[Bool.or_eq_false_iff] at h;have ih:=Iq os (o::M) h.2
  have h1:o∉M:=fun q=>by rw[mQ.2 q] at h;cases h.1
  refine⟨nk.2 ⟨fun q=>ih.2 o q (aM ..),ih.1⟩,fun x hx=>?_⟩
  rcases aV.1 hx with rfl|hx
  ·exact h1
  exact fun q=>ih.2 x hx (aU _ q)
variable {S:St}{outs ins:jh}
theorem zI.PG{u:ah}{rule:ah}{own:iB}{ms1 ms2:List ah}(h:zI S)(h1:oP ms1 outs)(h2:oP ms2 ins)(hb:oU S outs ins u=none):zI {S with bB:=S.bB++[uZ outs ins rule own]}:=by
 unfold oU at hb
 split at hb
 ·cases hb
 rename_i hc1
 split at hb
 ·cases hb
 split at hb
 ·cases hb
 split at hb
 ·cases hb
 split at hb
 ·cases hb
 rename_i hc5
 have hne:iF outs≠[]:=fun e=>hc1 (aG e)
 have SQ:=Iq _ _ (yU.2 hc5);refine⟨fun e he=>?_,?_,h.defs⟩
 ·rcases bK.1 he with he|he
  ·exact h.edge e he
  obtain rfl:=bg.1 he;refine⟨fun e=>hne (List.append_eq_nil_iff.1 e).1,fun x hx=>?_,fun x hx=>?_⟩
  ·rcases bK.1 (show x∈iF outs++fu outs nT from hx) with hx|hx
   ·exact uo h1 x hx
   exact vG h1 _ x hx
  rcases bK.1 (show x∈iF ins++(fu ins nT++fu ins uO) from hx) with hx|hx
  ·exact uo h2 x hx
  rcases bK.1 hx with hx|hx
  ·exact vG h2 _ x hx
  exact vG h2 _ x hx
 show((S.bB++[uZ outs ins rule own]).flatMap (·.outs)).Nodup;rw[kZ,mX];refine⟨h.once,?_,fun x hx y hy e=>?_⟩
 ·simpa[uZ] using SQ.1
 subst e;exact SQ.2 x (by simpa[uZ] using hy) hx
variable {no:Nat}{t:ah}{rest rest':List dK}{S':St}
theorem zI.stmt(hS:zI S)(h:qV S no t rest=.ok (S',rest')):zI S':=by
 unfold qV at h
 split at h
 ·cases h
 split at h
 ·unfold wh at h
  split at h
  ·cases h
  split at h
  ·cases h
  split at h
  ·cases h
  split at h
  ·cases h
  split at h
  ·cases h
  split at h
  ·cases h
  injection h with h;obtain⟨rfl,_⟩:=Prod.mk.inj h;exact⟨hS.edge,hS.once,hS.defs⟩
 split at h
 ·unfold kV at h
  split at h
  ·cases h
  split at h
  ·cases h
  rename_i outs ho
  split at h
  ·cases h
  rename_i ins hi
  split at h
  ·cases h
  rename_i hb
  split at h
  ·cases h
  injection h with h;obtain⟨rfl,_⟩:=Prod.mk.inj h;exact hS.PG (xG ho).1 (xG hi).1 hb
 split at h
 ·unfold oh at h
  split at h
  ·cases h
  rename_i A hA
  split at h
  ·cases h
  injection h with h;obtain⟨rfl,_⟩:=Prod.mk.inj h;refine⟨hS.edge,hS.once,fun x hx=>?_⟩
  rcases bK.1 hx with hx|hx
  ·exact hS.defs x hx
  exact uo (xG hA).1 x hx
 unfold Nu at h
 split at h
 ·cases h
 split at h
 ·cases h
 injection h with h;obtain⟨rfl,_⟩:=Prod.mk.inj h;exact⟨hS.edge,hS.once,hS.defs⟩
theorem zI.run:∀(g:Nat) (S:St) (ls:List dK) (S':St),zI S->Bn g S ls=.ok S'->zI S'
 |0,S,ls,S',hS,h=>by injection h with h;subst h;exact hS
 |_+1,S,[],S',hS,h=>by injection h with h;subst h;exact hS
 |g+1,S,x::rest,S',hS,h=>by
  unfold Bn at h
  split at h
  ·cases h
  rename_i Sr hq
  exact zI.run g Sr.1 Sr.2 S' (hS.stmt hq) h
variable {cs:List ah}
theorem zq(h:jV t=.ok (S,cs)):zI S:=by
 unfold jV at h
 split at h
 ·cases h
 split at h
 ·cases h
 rename_i S' hr
 split at h
 ·cases h
 injection h with h;obtain⟨rfl,_⟩:=Prod.mk.inj h;have h0:zI St.none:=⟨fun e he=>(by cases he),Dz,fun x hx=>(by cases hx)⟩;exact zI.run _ _ _ _ h0 hr
theorem Dm(h:jV t=.ok (S,cs))(hS:SOk S 0 []):aaY S:=by
 have hk:=zq h;refine⟨hS.bB,fun e he=>?_,hk.once,by have:=hS.defs;omega,hk.defs⟩;have h1:=hS.edge e he;have h2:=hk.edge e he;exact⟨by have:=h1.2.2.1;omega,by have:=h1.2.2.2.1;omega,by have:=h1.2.2.2.2.2.2.1;omega,by have:=h1.2.2.2.2.2.2.2;omega,h2.2.1,h2.2.2⟩
variable {es:List dm}{p:Nat}
theorem OC{e:dm}(h:es[p]?=some e):(jd es).getD p []=Ig es e:=by
 unfold jd;rw[cZ,dM,h];rfl
theorem vI(es:List dm):(jd es).length=es.length:=by unfold jd;simp
theorem WJ{q:Nat}(h:p∈(jd es).getD q []):∃e,es[q]?=some e/\∃x∈dZ e,fE es x=some p:=by
 cases he:es[q]? with
 |none=>
  unfold jd at h;rw[cZ,dM,he] at h
  cases h
 |some e=>
  rw[OC he] at h;obtain⟨x,hx,hm⟩:=jo.1 h;exact⟨e,rfl,x,hx,hm⟩
structure adh(S:St)(ts:List ah)(o:List Nat):Prop where
 lt:∀p∈o,p<S.bB.length
 nd:o.Nodup
 ahead:∀i p e,o[i]?=some p->S.bB[p]?=some e->∀x∈dZ e,∀m,fE S.bB x=some m->m∈o.take i
 goals:∀x∈wL S ts,∃p,fE S.bB x=some p/\p∈o
 want:∀p∈o,(∃x∈wL S ts,fE S.bB x=some p)\/∃q∈o,∃e,S.bB[q]?=some e/\∃x∈dZ e,fE S.bB x=some p
variable {o:List Nat}
theorem La{ts:List ah}(h:wO S ts=.ok o):adh S ts o:=by
 unfold wO at h
 split at h
 ·rename_i hrun
  have hN:=OD S.bB
  have hrun':zS (jd S.bB) (List.range (jd S.bB).length) (jP (jd S.bB).length) []=true:=by rw[vI];exact hrun
  obtain⟨r,hr⟩:=Ls hN hrun'
  split at h
  ·cases h
  rename_i o' hw
  injection h with h;subst h;rw[<-vI S.bB] at hw;obtain⟨s',h1,h2,_⟩:=Iy (G:=fun p=>∃x∈wL S ts,fE S.bB x=some p) hr (wL S ts) _ _ o' (Ml _ hN) (fun x hx p hp=>⟨by rw[vI];exact Gu hp,x,hx,hp⟩) hw;refine⟨fun p hp=>?_,h1.nd,fun i p e hi he x hx m hm=>?_,h2,fun p hp=>?_⟩
  ·have h3:=(h1.two p).2 hp
   rcases bR p S.bB.length with c|c
   ·exact c
   rw[cZ,gK (by rw[h1.fits.len,vI];exact c)] at h3
   cases h3
  ·refine h1.ahead i p hi m ?_;rw[OC he];exact jo.2 ⟨x,hx,hm⟩
  rcases h1.want p (aG hp) with g|⟨q,hq,hpq⟩
  ·exact aG g
  refine aL ⟨q,?_,WJ hpq⟩
  rcases hq with hq|hq
  ·exact hq
  cases hq
 cases h
section
open Go.RowKit Go.Maps
variable {x:ah}
theorem AR{y:ah}:(x.toList==y.toList)=decide (x=y):=by
 cases hq:(x.toList==y.toList) with
 |true=>exact(bN (xH hq)).symm
 |false=>exact(bH (fun e=>by rw[e] at hq;simp at hq)).symm
end
def wE(s:jh):Prop:=∀x∈s,∀y∈x.2,mH y=true
variable {s:jh}
theorem wE.add(h:wE s){p:ah}(hp:mH p=true):wE (tZ s p):=by
 unfold tZ
 split
 ·exact h
 rename_i x hx
 intro y hy z hz
 rcases bK.1 hy with hy|hy
 ·exact h y (List.dropLast_subset _ hy) z hz
 obtain rfl:=bg.1 hy
 rcases bK.1 hz with hz|hz
 ·exact h x (List.mem_of_getLast? hx) z hz
 obtain rfl:=bg.1 hz;exact hp
variable {E:ah->ah}
theorem abV{p:ah}(h:qU E t=.ok p):mH p=true:=by
 unfold qU at h
 split at h
 ·cases h
 split at h
 ·rename_i hk
  injection h with h;subst h;exact hk
 cases h
theorem AA(E:ah->ah)(ms:List ah):∀(g:Nat) (u:ah) (a s:jh),jK E ms g u a=.ok s->wE a->wE s
 |0,u,a,s,h,ha=>by
  rw[jK] at h;injection h with h;subst h;exact ha
 |g+1,u,a,s,h,ha=>by
  rw[jK] at h
  by_cases h0:(bD u).size=0
  ·rw[aD h0] at h;injection h with h;subst h;exact ha
  rw[ax h0] at h
  by_cases hm:jI (bD u)=⟨#[]⟩
  ·rw[aD hm] at h
   cases hq:qU E ((bD u).extract 0 (kL (bD u))) with
   |error e=>rw[hq] at h;cases h
   |ok p=>
    rw[hq] at h;exact AA E ms g _ _ s h (ha.add (abV hq))
  rw[ax hm] at h
  by_cases hb:eT (jI (bD u)) ms=true
  ·rw[aD hb] at h;refine AA E ms g _ _ s h (fun x hx y hy=>?_)
   rcases bK.1 hx with hx|hx
   ·exact ha x hx y hy
   obtain rfl:=bg.1 hx
   cases hy
  rw[ax hb] at h
  cases h
theorem OM{ms:List ah}(h:nK E ms t=.ok s):wE s:=
 AA E ms _ t _ s h (fun x hx y hy=>by obtain rfl:=bg.1 hx;cases hy)
theorem wE.first(h:wE s):∀y∈iF s,mH y=true:=by
 cases s with
 |nil=>intro y hy;cases hy
 |cons x s=>exact fun y hy=>h x (aM ..) y hy
theorem wE.behind(h:wE s)(m:ah):∀y∈fu s m,mH y=true:=by
 unfold fu
 cases hf:s.find? (fun x=>decide (x.1=m)) with
 |none=>intro y hy;cases hy
 |some x=>exact fun y hy=>h x (pV hf) y hy
def Ad(e:dm):Prop:=(∀x∈e.outs,mH x=true)/\∀x∈dZ e,mH x=true
theorem YT(h1:wE outs)(h2:wE ins)(rule:ah)(own:iB):Ad (uZ outs ins rule own):=by
 refine⟨fun x hx=>?_,fun x hx=>?_⟩
 ·rcases bK.1 (show x∈iF outs++fu outs nT from hx) with hx|hx
  ·exact h1.first x hx
  exact h1.behind _ x hx
 rcases bK.1 (show x∈iF ins++(fu ins nT++fu ins uO) from hx) with hx|hx
 ·exact h2.first x hx
 rcases bK.1 hx with hx|hx
 ·exact h2.behind _ x hx
 exact h2.behind _ x hx
def Ah(S:St):Prop:=(∀e∈S.bB,Ad e)/\S.bB.length<=64
theorem Ah.stmt(hS:Ah S)(h:qV S no t rest=.ok (S',rest')):Ah S':=by
 unfold qV at h
 split at h
 ·cases h
 split at h
 ·unfold wh at h
  split at h
  ·cases h
  split at h
  ·cases h
  split at h
  ·cases h
  split at h
  ·cases h
  split at h
  ·cases h
  split at h
  ·cases h
  injection h with h;obtain⟨rfl,_⟩:=Prod.mk.inj h;exact hS
 split at h
 ·unfold kV at h
  split at h
  ·cases h
  split at h
  ·cases h
  rename_i outs ho
  split at h
  ·cases h
  rename_i ins hi
  split at h
  ·cases h
  rename_i hb
  split at h
  ·cases h
  injection h with h;obtain⟨rfl,_⟩:=Prod.mk.inj h;refine⟨fun e he=>?_,?_⟩;rotate_left
  ·show(S.bB++[_]).length<=64;unfold oU at hb
   split at hb
   ·cases hb
   split at hb
   ·cases hb
   split at hb
   ·cases hb
   rw[aF];show S.bB.length+1<=64;omega
  rcases bK.1 he with he|he
  ·exact hS.1 e he
  obtain rfl:=bg.1 he;exact YT (OM ho) (OM hi) _ _
 split at h
 ·unfold oh at h
  split at h
  ·cases h
  split at h
  ·cases h
  injection h with h;obtain⟨rfl,_⟩:=Prod.mk.inj h;exact hS
 unfold Nu at h
 split at h
 ·cases h
 split at h
 ·cases h
 injection h with h;obtain⟨rfl,_⟩:=Prod.mk.inj h;exact hS
theorem Ah.run:∀(g:Nat) (S:St) (ls:List dK) (S':St),Ah S->Bn g S ls=.ok S'->Ah S'
 |0,S,ls,S',hS,h=>by injection h with h;subst h;exact hS
 |_+1,S,[],S',hS,h=>by injection h with h;subst h;exact hS
 |g+1,S,x::rest,S',hS,h=>by
  unfold Bn at h
  split at h
  ·cases h
  rename_i Sr hq
  exact Ah.run g Sr.1 Sr.2 S' (hS.stmt hq) h
theorem BR(h:jV t=.ok (S,cs)):Ah S:=by
 unfold jV at h
 split at h
 ·cases h
 split at h
 ·cases h
 rename_i S' hr
 split at h
 ·cases h
 injection h with h;obtain⟨rfl,_⟩:=Prod.mk.inj h;exact Ah.run _ _ _ _ ⟨fun e he=>(by cases he),aN _⟩ hr
variable {x:ah}
theorem WE(h:fE es x=some p):∃e,es[p]?=some e/\x∈e.outs:=by
 unfold fE at h;obtain⟨hlt,h1,_⟩:=XE.1 h;exact⟨es[p],by simp,mQ.1 h1⟩
theorem Ec:∀{es:List dm} {p q:Nat} {e f:dm} {x:ah},(es.flatMap (·.outs)).Nodup->es[p]?=some e->es[q]?=some f->x∈e.outs->x∈f.outs->p=q
 |[],p,q,e,f,x,_,h,_,_,_=>by simp at h
 |y::es,0,0,e,f,x,_,_,_,_,_=>rfl
 |y::es,0,q+1,e,f,x,hn,he,hf,hx,hz=>by
  rw[mW,mX] at hn
  obtain rfl:y=e:=by simpa using he
  exact absurd rfl (hn.2.2 x hx x (IJ.2 ⟨f,aO (by simpa using hf),hz⟩))
 |y::es,p+1,0,e,f,x,hn,he,hf,hx,hz=>by
  rw[mW,mX] at hn
  obtain rfl:y=f:=by simpa using hf
  exact absurd rfl (hn.2.2 x hz x (IJ.2 ⟨e,aO (by simpa using he),hx⟩))
 |y::es,p+1,q+1,e,f,x,hn,he,hf,hx,hz=>by
  rw[mW,mX] at hn;exact gW Nat.succ (Ec hn.2.1 (show es[p]?=some e by simpa using he) (show es[q]?=some f by simpa using hf) hx hz)
theorem ZK{n:Nat}(hnd:o.Nodup)(hlt:∀p∈o,p<n):o.length<=n:=by
 have:=hnd.length_le_of_subset (l₂:=List.range n) (fun p hp=>kS.2 (hlt p hp))
 rwa [List.length_range] at this
