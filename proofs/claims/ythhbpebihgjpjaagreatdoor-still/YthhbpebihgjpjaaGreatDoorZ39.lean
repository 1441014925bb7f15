import Derived.Test.YthhbpebihgjpjaaGreatDoorZ19
import Derived.Test.YthhbpebihgjpjaaGreatDoorZ22
import Derived.Test.YthhbpebihgjpjaaGreatDoorZ29
import Derived.Test.YthhbpebihgjpjaaGreatDoorZ35
import Derived.Test.YthhbpebihgjpjaaGreatDoorZ38
namespace Go.Proofs.YthhbpebihgjpjaaGreatDoor
set_option maxRecDepth 1000000
set_option maxHeartbeats 20000000
set_option linter.all false
section
open Go.RowKit Go.Maps
structure qQ(A:Nat->Nat)(left jb fb:Nat)(pl:Value)(ub m:Nat)(v1 v2 v3 v4:Value)(J:eZ)(w:aj):Prop where
 row:w.heap[jb]?=some (.cells #[.pointer (some ⟨fb,0,none⟩),pl,.map (some ub),v1,v2,v3,v4] 125 (0,0))
 un:ny w ub m J.un
 r1:w.ownsRow 0 9 1 v1 J.ran.length (J.ran.map Value.string)
 r2:w.ownsRow 0 9 1 v2 J.cl.length (J.cl.map Value.string)
 r3:w.ownsRow 0 9 1 v3 J.fa.length (J.fa.map Value.string)
 r4:w.ownsRow 0 9 1 v4 J.bl.length (J.bl.map Value.string)
 cj:A jb=2
 cu:A ub=4
 c1:∀k,v1.ownBlock=some k->A k=5
 c2:∀k,v2.ownBlock=some k->A k=6
 c3:∀k,v3.ownBlock=some k->A k=7
 c4:∀k,v4.ownBlock=some k->A k=8
 lim:m+left<=1000000000000/\J.ran.length+left<=1000000000000/\J.cl.length+left<=1000000000000/\J.fa.length+left<=1000000000000/\J.bl.length+left<=1000000000000
def pY(A:Nat->Nat)(left fb:Nat)(r:bS)(w:aj):Prop:=∃c d,c+left<=900000000000/\jc A 1 c fb d r w/\rV c r d
structure iA(A:Nat->Nat)(a:Nat->Addr)(t:Nat->ah)(left fb jb lb:Nat)(J:eZ)(w:aj):Prop where
 env:vL A a t w
 rounds:jw w
 files:pY A left fb J.r w
 job:∃ub m v1 v2 v3 v4,qQ A left jb fb (.pointer (some ⟨lb,0,none⟩)) ub m v1 v2 v3 v4 J w
 book:∃mb vn n,jG w lb mb vn n J.L/\(∀k,oI lb mb vn k->A k=3)/\n+left<=1000000000000/\J.L.count+left<=1000000000000
 above:∀k,w.heap.size<=k->A k=0
theorem aY{p:Prop}(h:p):Hid p:=h
def JF(A:Nat->Nat)(k:Nat):Prop:=1<=A k/\A k<=8
variable {A:Nat->Nat}{left left' fb:Nat}{r:bS}{w:aj}
theorem pY.less(h:pY A left fb r w)(hl:left'<=left):pY A left' fb r w:=by
 obtain⟨c,d,h1,h2⟩:=h;exact⟨c,d,by omega,h2⟩
variable {A':Nat->Nat}{w':aj}
theorem pY.keep(h:pY A left fb r w)(hA:∀k,k<w.heap.size->A' k=A k)(hb:∀k,k<w.heap.size->(A k=1\/A k=0)->w'.heap[k]?=w.heap[k]?):pY A' left fb r w':=by
 obtain⟨c,d,h1,h2,h3⟩:=h;exact⟨c,d,h1,h2.keep (ai _) hA hb,h3⟩
variable {jb ub m:Nat}{pl v1 v2 v3 v4:Value}{J:eZ}
theorem qQ.less(h:qQ A left jb fb pl ub m v1 v2 v3 v4 J w)(hl:left'<=left):qQ A left' jb fb pl ub m v1 v2 v3 v4 J w:=
 ⟨h.row,h.un,h.r1,h.r2,h.r3,h.r4,h.cj,h.cu,h.c1,h.c2,h.c3,h.c4,by have:=h.lim;omega⟩
theorem qQ.keep(h:qQ A left jb fb pl ub m v1 v2 v3 v4 J w)(hA:∀k,k<w.heap.size->A' k=A k)(hb:∀k,k<w.heap.size->(A k=2\/(4<=A k/\A k<=8))->w'.heap[k]?=w.heap[k]?):qQ A' left jb fb pl ub m v1 v2 v3 v4 J w':=by
 have ro:∀{v:Value} {n:Nat} {xs:List Value} {c:Nat},w.ownsRow 0 9 1 v n xs->(∀k,v.ownBlock=some k->A k=c)->(4<=c/\c<=8)->w'.ownsRow 0 9 1 v n xs/\∀k,v.ownBlock=some k->A' k=c:=fun {v n xs c} hr hc h4=>⟨dL hr (fun k hk=>hb k (bA hr k hk).2 (aL (by rw[hc k hk];exact h4))),fun k hk=>by rw[hA k (bA hr k hk).2];exact hc k hk⟩
 have q1:=ro h.r1 h.c1 (by decide);have q2:=ro h.r2 h.c2 (by decide);have q3:=ro h.r3 h.c3 (by decide);have q4:=ro h.r4 h.c4 (by decide);exact⟨(hb jb (bI h.row) (aG h.cj)).trans h.row,dU.keep h.un (hb ub h.un.lt (aL ⟨by rw[h.cu];decide,by rw[h.cu];decide⟩)),q1.1,q2.1,q3.1,q4.1,by rw[hA _ (bI h.row)];exact h.cj,by rw[hA _ h.un.lt];exact h.cu,q1.2,q2.2,q3.2,q4.2,h.lim⟩
theorem qQ.with(h:qQ A left jb fb pl ub m v1 v2 v3 v4 J w)(r:bS)(L:ku):qQ A left jb fb pl ub m v1 v2 v3 v4 {J with r:=r,L:=L} w:=
 ⟨h.row,h.un,h.r1,h.r2,h.r3,h.r4,h.cj,h.cu,h.c1,h.c2,h.c3,h.c4,h.lim⟩
theorem jw.keep(h:jw w)(hb:∀k,k<14->w'.heap[k]?=w.heap[k]?):jw w':=fun i hi=>by
 rw[aB (w:=w) (a:=⟨10,i,none⟩) (hb _ (show 10<14 by decide))];exact h i hi
variable {a:Nat->Addr}{t:Nat->ah}{lb:Nat}
theorem iA.less(h:iA A a t left fb jb lb J w)(hl:left'<=left):iA A a t left' fb jb lb J w:=by
 obtain⟨ub,m,v1,v2,v3,v4,hj⟩:=h.job;obtain⟨mb,vn,n,hb,hc,h1,h2⟩:=h.book;exact⟨h.env,h.rounds,h.files.less hl,⟨ub,m,v1,v2,v3,v4,hj.less hl⟩,⟨mb,vn,n,hb,hc,by omega,by omega⟩,h.above⟩
theorem iA.keep(h:iA A a t left fb jb lb J w)(hs:w.heap.size<=w'.heap.size)(hA:∀k,k<w.heap.size->A' k=A k)(hb:∀k,k<w.heap.size->A k<=8->w'.heap[k]?=w.heap[k]?)(ha:∀k,w'.heap.size<=k->A' k=0):iA A' a t left fb jb lb J w':=by
 obtain⟨ub,m,v1,v2,v3,v4,hj⟩:=h.job;obtain⟨mb,vn,n,hk,hc,h1⟩:=h.book;exact⟨h.env.keep hs hA (fun k hk h0=>hb k hk (by omega)),h.rounds.keep (fun k hk=>hb k (ay hk h.env.glob) (by rw[h.env.zero k hk];decide)),h.files.keep hA (fun k hk q=>hb k hk (by omega)),⟨ub,m,v1,v2,v3,v4,hj.keep hA (fun k hk q=>hb k hk (by omega))⟩,⟨mb,vn,n,hk.keep (fun k q=>hb k (hk.lt k q) (by rw[hc k q];decide)),fun k q=>by rw[hA k (hk.lt k q)];exact hc k q,h1⟩,ha⟩
theorem iA.below(h:iA A a t left fb jb lb J w)(hb:Below w.heap.size w w'):iA A a t left fb jb lb J w':=h.keep hb.size (fun _ _=>rfl) (fun k hk _=>hb.block k hk) (fun k hk=>h.above k (aA hb.size hk))
def dF(A:Nat->Nat)(a:Nat->Addr)(t:Nat->ah)(left fb jb lb:Nat)(J:eZ)(w w':aj):Prop:=
 ∃A',iA A' a t left fb jb lb J w'/\(∀k,k<w.heap.size->A' k=A k)/\aQ (JF A) w w'
theorem dF.refl(h:iA A a t left fb jb lb J w)(hb:Below w.heap.size w w'):dF A a t left fb jb lb J w w':=⟨A,h.below hb,fun _ _=>rfl,aQ.of_below _ hb⟩
variable {w1 w2:aj}
theorem je(hA:∀k,k<w.heap.size->A' k=A k)(h1:aQ (JF A) w w1)(h2:aQ (JF A') w1 w2):aQ (JF A) w w2:=
 h1.trans h2 (fun k hk=>by
  by_cases q:k<w.heap.size
  ·left;unfold JF at hk⊢;rw[hA k q] at hk;exact hk
  exact aL (by omega))
theorem dF.trans{A1:Nat->Nat}{lb':Nat}(hA:∀k,k<w.heap.size->A1 k=A k)(ht:aQ (JF A) w w1)(h2:dF A1 a t left fb jb lb' J w1 w2):dF A a t left fb jb lb' J w w2:=by
 obtain⟨A2,h3,h4,h5⟩:=h2;exact⟨A2,h3,fun k hk=>(h4 k (ay hk ht.size)).trans (hA k hk),je hA ht h5⟩
theorem dF.less(h:dF A a t left fb jb lb J w w')(hl:left'<=left):dF A a t left' fb jb lb J w w':=by
 obtain⟨A',h1,h2⟩:=h;exact⟨A',h1.less hl,h2⟩
theorem dF.after(hb:Below w.heap.size w w1)(h2:dF A a t left fb jb lb J w1 w2):dF A a t left fb jb lb J w w2:=dF.trans (fun _ _=>rfl) (aQ.of_below _ hb) h2
variable {c:Nat}
theorem iA.stepped{r':bS}{d':dQ}(h:iA A a t (left+1) fb jb lb J w)(hc:c+left<=900000000000)(hp:jc A' 1 c fb d' r' w')(hI:rV c r' d')(hA:∀k,k<w.heap.size->A' k=A k)(ht:aQ (fun k=>A k=1) w w'):dF A a t left fb jb lb {J with r:=r'} w w':=by
 obtain⟨ub,m,v1,v2,v3,v4,hj⟩:=h.job;obtain⟨mb,vn,n,hk,hcb,h1,h2⟩:=h.book;obtain⟨A2,e1,_,e3⟩:=FZ A' w'.heap.size 0 (fun _=>False)
 have hA2:∀k,k<w.heap.size->A2 k=A k:=fun k hk=>(e1 k (ay hk ht.size)).trans (hA k hk)
 have hkp:∀k,k<w.heap.size->A k≠1->w'.heap[k]?=w.heap[k]?:=fun k hk h1=>ht.block k hk h1
 refine⟨A2,⟨h.env.keep ht.size hA2 (fun k hk h0=>hkp k hk (by omega)),h.rounds.keep (fun k hk=>hkp k (ay hk h.env.glob) (by rw[h.env.zero k hk];decide)),⟨c,d',hc,hp.keep (ai _) e1 (fun _ _ _=>rfl),hI⟩,⟨ub,m,v1,v2,v3,v4,((hj.less (fB _)).keep hA2 (fun k hk q=>hkp k hk (by omega))).with r' J.L⟩,⟨mb,vn,n,hk.keep (fun k q=>hkp k (hk.lt k q) (by rw[hcb k q];decide)),fun k q=>by rw[hA2 k (hk.lt k q)];exact hcb k q,by omega,by show J.L.count+left<=_;omega⟩,fun k hk=>e3 k hk id⟩,hA2,ht.mono (fun k q=>⟨by rw[q];decide,by rw[q];decide⟩)⟩
def Et(A:Nat->Nat)(a:Nat->Addr)(t:Nat->ah)(left fb jb lb:Nat)(J:eZ)(q:Int×bS)(w:aj)(e:Ending)(w':aj):Prop:=
 ∃v,e=.returned v/\rE a v q.1/\dF A a t left fb jb lb {J with r:=q.2} w w'
theorem iA.Ya{q:Int×bS}{e:Ending}(h:iA A a t (left+1) fb jb lb J w)(hc:c+(left+1)<=900000000000)(hp:Da A a 1 c fb q w e w'):Et A a t left fb jb lb J q w e w':=by
 obtain⟨v,d',A',rfl,hn,hp,hI,hA,ht⟩:=hp;exact⟨v,rfl,hn,h.stepped (by omega) hp hI hA ht⟩
theorem KA(h:iA A a t (left+1) fb jb lb J w)(name data:ah)(hn:name.size<=140737488351232)(hd:data.size<=140737488351232):
  Calls Tryz.prog 49 #[.pointer (some ⟨fb,0,none⟩),.string name,.string data] w (Et A a t left fb jb lb J (eu J.r name data) w):=by
 obtain⟨c,d,hc,hp,hI⟩:=h.files
 exact(Ld (by decide) h.env hp hI (by omega) name data hn hd).mono fun e w' hx=>h.Ya hc hx
theorem Ta(h:iA A a t (left+1) fb jb lb J w)(name data:ah)(hn:name.size<=140737488351232)(hd:data.size<=140737488351232):
  Calls Tryz.prog 229 #[.pointer (some ⟨fb,0,none⟩),.string name,.string data] w (Et A a t left fb jb lb J (kM J.r name data) w):=by
 obtain⟨c,d,hc,hp,hI⟩:=h.files
 exact(TP (by decide) h.env hp hI (by omega) name data hn hd).mono fun e w' hx=>h.Ya hc hx
theorem Tg(h:iA A a t (left+1) fb jb lb J w)(name data:ah)(hn:name.size<=140737488351232):
  Calls Tryz.prog 174 #[.pointer (some ⟨fb,0,none⟩),.string name,.string data] w (Et A a t left fb jb lb J (jW J.r name data) w):=by
 obtain⟨c,d,hc,hp,hI⟩:=h.files
 exact(TU (by decide) h.env hp hI (by omega) name data hn).mono fun e w' hx=>h.Ya hc hx
theorem Cs(h:iA A a t (left+1) fb jb lb J w):
  Calls Tryz.prog 173 #[.pointer (some ⟨fb,0,none⟩)] w (Et A a t left fb jb lb J (iR J.r) w):=by
 obtain⟨c,d,hc,hp,hI⟩:=h.files
 exact(ZO (by decide) h.env hp hI).mono fun e w' hx=>h.Ya hc hx
def aaB(A:Nat->Nat)(a:Nat->Addr)(t:Nat->ah)(left fb jb lb:Nat)(J:eZ)(q:Int×bS×ku)(w:aj)(e:Ending)(w':aj):Prop:=
 ∃v,e=.returned v/\rE a v q.1/\dF A a t left fb jb lb {J with r:=q.2.1,L:=q.2.2} w w'
def adj(A:Nat->Nat)(a:Nat->Addr)(t:Nat->ah)(left fb jb lb:Nat)(J:eZ)(o:Option ah)(w:aj)(e:Ending)(w':aj):Prop:=
 ∃v,e=.returned (.tuple #[.string (o.getD ⟨#[]⟩),v])/\((o.isSome=true/\v=.nilIface)\/(o=none/\v=jS a 1))/\dF A a t left fb jb lb J w w'
theorem Gr(h:iA A a t left fb jb lb J w)(name:ah)(hn:name.size<=140737488351232):
  Calls Tryz.prog 45 #[.pointer (some ⟨fb,0,none⟩),.string name] w (adj A a t left fb jb lb J (dG J.r name) w):=by
 obtain⟨c,d,hc,hp,hI⟩:=h.files;refine(GA (by decide) h.env hp name hn).mono ?_;rintro e w' ⟨v,rfl,jD,hp',ht⟩;rw[Gs] at jD⊢;refine⟨v,rfl,?_,?_⟩
 ·cases hq:dG J.r name with
  |none=>
   rw[hq] at jD
   rcases jD with ⟨_,e⟩|⟨k,hk,rfl,e⟩
   ·exact absurd e (by decide)
   right
   obtain rfl:k=1:=by simp at e;omega
   exact⟨rfl,rfl⟩
  |some x=>
   rw[hq] at jD
   rcases jD with ⟨e,_⟩|⟨k,hk,rfl,e⟩
   ·exact aG ⟨rfl,e⟩
   simp at e
   omega
 obtain⟨ub,m,v1,v2,v3,v4,hj⟩:=h.job;obtain⟨mb,vn,n,hk,hcb,h1,h2⟩:=h.book
 have hkp:∀k,k<w.heap.size->A k≠1->w'.heap[k]?=w.heap[k]?:=fun k hk h1=>ht.block k hk h1
 exact⟨A,⟨h.env.keep ht.size (fun _ _=>rfl) (fun k hk h0=>hkp k hk (by omega)),h.rounds.keep (fun k hk=>hkp k (ay hk h.env.glob) (by rw[h.env.zero k hk];decide)),⟨c,d,hc,hp',hI⟩,⟨ub,m,v1,v2,v3,v4,hj.keep (fun _ _=>rfl) (fun k hk q=>hkp k hk (by omega))⟩,⟨mb,vn,n,hk.keep (fun k q=>hkp k (hk.lt k q) (by rw[hcb k q];decide)),hcb,h1,h2⟩,fun k hk=>h.above k (aA ht.size hk)⟩,fun _ _=>rfl,ht.mono (fun k q=>⟨by rw[q];decide,by rw[q];decide⟩)⟩
theorem iA.size(h:iA A a t left fb jb lb J w)(x:ah):((dG J.r x).getD ⟨#[]⟩).size<=65536:=by
 obtain⟨c,d,_,_,hI⟩:=h.files;unfold dG
 split
 ·exact aN _
 exact aA (pQ _ _) hI.total
def PU(bx:Nat):Value:=.func (.func 243) #[] #[.pointer (some ⟨bx,0,none⟩)]
theorem VP(w:aj)(args:Array Value):(callFunc 243 args).run Tryz.prog w=.ok (.enter 243 args) w:=by kernel_rfl
structure Vt(w:aj)(bx jb ub m:Nat)(un:List ah):Prop where
 box:w.cell? ⟨bx,0,none⟩=some (.pointer (some ⟨jb,0,none⟩))
 cell:w.cell? ⟨jb,2,none⟩=some (.map (some ub))
 map:ny w ub m un
variable {bx:Nat}{un:List ah}
theorem Vt.below(h:Vt w bx jb ub m un)(hb:Below w.heap.size w w'):Vt w' bx jb ub m un:=
 ⟨(hb.cell (p:=⟨bx,0,none⟩) (aC h.box)).trans h.box,(hb.cell (p:=⟨jb,2,none⟩) (aC h.cell)).trans h.cell,dU.keep h.map (hb.block ub (dU.lt h.map))⟩
theorem PS(h:Vt w bx jb ub m un)(x:ah)(hx:x.size<=32):
  Calls Tryz.prog 243 #[.string x,.pointer (some ⟨bx,0,none⟩)] w fun e w'=>e=.returned (.bool (eT x un))/\Below w.heap.size w w':=by
 have c1:=h.box;have c2:=h.cell;have hlk:=dU.look_ok h.map (t:=122) Tryz.underlying122 Pj x (by unfold maxLen;omega)
 have e1:((if eT x un=true then some (Value.agg #[]) else none).getD (.agg #[]))=.agg #[]:=by split<;>rfl
 have e2:(if eT x un=true then some (Value.agg #[]) else none).isSome=eT x un:=by cases eT x un<;>rfl
 rw[e1,e2] at hlk;clear h e1 e2;generalize eT x un=q at*;have HB:Hid (Below w.heap.size w w):=au _ _
 go_enter Tryz.func243,Tryz.ntmps243
 go_wp2_with fail
 go_ret;exact⟨rfl,by first|exact HB.out.alloc (ai _) _|exact(HB.out.alloc (ai _) _).setCell (ai _) _|exact HB.out⟩
variable {l:List ah}{v:Value}
theorem Kw(h:Vt w bx jb ub m un)(ht:bG w v l)(hl:l.length<=100000)(hx:∀x∈l,x.size<=32):
  Calls Tryz.prog 309 #[v,PU bx] w fun e w'=>∃i:Int,e=.returned (.int .i64 i)/\(decide (0<=i)=l.any fun x=>eT x un)/\Below w.heap.size w w':=by
 obtain⟨ao,cap,rfl,hc,htx⟩:=ht;have HU:=aP h;have HT:=aP htx;have HX:=aP hx;have hen:=VP;generalize hL:l.length=L at*;have HL:=aP hL
 have l0:(L:Int)<=100000:=by omega
 clear h htx hx hL hc;unfold PU
 go_enter Tryz.func309,Tryz.ntmps309
 go_wp2_with fail
 go_loopw [8] (fun i wr=>∃j:Nat,i=.int .i64 j/\j<=L/\((l.take j).any fun x=>eT x un)=false/\Below w.heap.size w wr) (fun i _=>L-(intOf i).toNat)
 case atStart=>exact⟨0,rfl,aN _,rfl,au _ _⟩
 case round=>
  obtain⟨j,rfl,hj,hno,hbl⟩:=hrel;have HN:=aP (aK hno hbl)
  have j0:(0:Int)<=(j:Int):=by omega
  by_cases hlt:j<L
  ·have j1:(j:Int)<(L:Int):=by omega
   obtain⟨x,hx⟩:∃x,l[j]?=some x:=⟨l[j]'(by have:=HL.out;omega),by simp⟩
   obtain⟨b,o,rfl,hct⟩:∃b o,ao=some ⟨b,o,none⟩/\∀k s,l[k]?=some s->w.cell? ⟨b,o+k,none⟩=some (.string s):=by
    rcases HT.out with ⟨_,q,_⟩|q
    ·exfalso;rw[q] at hx;simp at hx
    exact q
   have cx:wr.cell? ⟨b,o+j,none⟩=some (.string x):=(hbl.cell (p:=⟨b,o+j,none⟩) (aC (hct j x hx))).trans (hct j x hx);have HC:=aP (PS (HU.out.below hbl) x (HX.out x (aO hx)))
   have Ev:Hid (((l.take (j+1)).any fun x=>eT x un)=eT x un):=by
    show _=_;rw[dN,hx,lT,List.any_append,hno]
    simp
   have HYS:Hid (eT x un=true->(l.any fun x=>eT x un)=true):=fun h=>aaT.2 ⟨x,aO hx,h⟩
   clear hno hbl hct hx
   go_wp2_with fail
   refine HC.out.mono ?_;rintro e w2 ⟨rfl,hb2⟩;have HB2:=aP (HN.out.2.trans (hb2.mono HN.out.2.size));clear hb2 HC cx;generalize eT x un=q at*
   rcases q with _|_
   ·go_wp2_with fail
    exact⟨⟨j+1,by go_num,by omega,Ev.out,HB2.out⟩,by simp[intOf];omega⟩
   go_wp2_with fail
   go_ret;exact⟨_,rfl,by rw[HYS.out (by trivial)];exact bN (by omega),HB2.out⟩
  obtain rfl:j=L:=by omega
  have HF:Hid ((l.any fun x=>eT x un)=false):=by have h:=HN.out.1;rw[bF (dx HL.out)] at h;exact h
  clear hno hbl
  go_wp2_with fail
  go_ret;exact⟨_,rfl,by rw[HF.out];rfl,HN.out.2⟩
theorem EJ(h:Vt w bx jb ub m un)(ht:bG w v l)(hl:l.length<=100000)(hx:∀x∈l,x.size<=32):
  Calls Tryz.prog 242 #[v,PU bx] w fun e w'=>e=.returned (.bool (l.any fun x=>eT x un))/\Below w.heap.size w w':=by
 have HC:=aY (Kw h ht hl hx);obtain⟨ao,cap,rfl,_,_⟩:=ht;clear h hx;unfold PU at*
 go_enter Tryz.func242,Tryz.ntmps242
 go_wp2_with fail
 refine HC.out.mono ?_;rintro e w2 ⟨i,rfl,hi,hb2⟩;have HI:=aP (aK hi hb2);clear hi hb2 HC
 go_wp2_with fail
 go_ret;exact⟨by rw[<-HI.out.1];rfl,HI.out.2⟩
variable {vo vi vm vr:Value}
theorem Nf{r c:ah}(hc:w.cell? ⟨jb,2,none⟩=some (.map (some ub)))(hu:ny w ub m un)(e:dm)(tv:∃ao n c,vo=.slice ao n c)(ti:bG w vi e.ins)(tm:bG w vm e.impl)(tr:bG w vr e.ord)(hi:e.ins.length<=10000)(hm:e.impl.length<=10000)(hr:e.ord.length<=10000)(hx:∀x∈dZ e,x.size<=32):
  Calls Tryz.prog 163 #[.pointer (some ⟨jb,0,none⟩),.agg #[vo,vi,vm,vr,.string r,.string c]] w fun e' w'=>e'=.returned (.bool ((dZ e).any fun x=>eT x un))/\Below w.heap.size w w':=by
 obtain⟨W1,hW1⟩:∃W1,W1=(w.alloc (.cells #[.pointer (some ⟨jb,0,none⟩)] 121)).alloc (.cells #[vo,vi,vm,vr,.string r,.string c] 63):=⟨_,rfl⟩;have hsz:(w.alloc (.cells #[.pointer (some ⟨jb,0,none⟩)] 121)).heap.size=w.heap.size+1:=bJ _ _
 have hB1:Below w.heap.size w W1:=by rw[hW1];exact((au _ _).alloc (ai _) _).alloc (by omega) _
 have Ba:=aY (wK (w:=W1) (vo:=vo) (r:=r) (c:=c) e tv (ti.gY hB1) (tm.gY hB1) (tr.gY hB1) hi hm hr);have HU1:Hid (Vt W1 w.heap.size jb ub m un):=⟨by rw[hW1];exact(aB (a:=⟨w.heap.size,0,none⟩) (aZ _ _ w.heap.size (by omega))).trans (jq _ _ _ _ _ rfl),(hB1.cell (p:=⟨jb,2,none⟩) (aC hc)).trans hc,dU.keep hu (hB1.block ub (dU.lt hu))⟩;have HB1:=aP hB1;have HDX:Hid ((∀x∈dZ e,x.size<=32)/\(dZ e).length<=100000):=⟨hx,by unfold dZ;rw[aF,aF];omega⟩;have HW1:=aP hW1;obtain⟨mY,nO,cO,rfl⟩:=tv;obtain⟨kz,cI,rfl,_,_⟩:=ti;obtain⟨lH,cM,rfl,_,_⟩:=tm;obtain⟨nC,cR,rfl,_,_⟩:=tr
 have ca:∀i u,(#[.slice mY nO cO,.slice kz e.ins.length cI,.slice lH e.impl.length cM,.slice nC e.ord.length cR,.string r,.string c]:Array Value)[i]?=some u->((w.alloc (.cells #[.pointer (some ⟨jb,0,none⟩)] 121)).alloc (.cells #[.slice mY nO cO,.slice kz e.ins.length cI,.slice lH e.impl.length cM,.slice nC e.ord.length cR,.string r,.string c] 63)).cell? ⟨w.heap.size+1,i,none⟩=some u:=fun i u hu=>by rw[bZ (aW _ _ _ hsz.symm)];exact hu
 have a0:=ca 0 _ rfl;have a1:=ca 1 _ rfl;have a2:=ca 2 _ rfl;have a3:=ca 3 _ rfl;have a4:=ca 4 _ rfl;have a5:=ca 5 _ rfl;clear ca hW1 hB1 hx hi hm hr hc hu
 go_enter Tryz.func163,Tryz.ntmps163
 go_wp2_with fail
 rw[<-HW1.out];refine Ba.out.mono ?_;rintro e2 w2 ⟨v,rfl,hrow,hb2⟩;have HV:Hid (bG w2 v (dZ e)/\Below W1.heap.size W1 w2):=⟨mV hrow,hb2⟩;obtain⟨af,Al,rfl,_,_⟩:=bq hrow;clear hrow hb2 Ba a0 a1 a2 a3 a4 a5
 go_wp2_with fail
 refine(EJ (HU1.out.below HV.out.2) HV.out.1 HDX.out.2 HDX.out.1).mono ?_;rintro e3 w3 ⟨rfl,hb3⟩;have HB3:=aP (HB1.out.trans ((HV.out.2.trans (hb3.mono HV.out.2.size)).mono HB1.out.size));clear hb3;generalize hq:((dZ e).any fun x=>eT x un)=q;have HQ:=aY hq;clear hq
 go_wp2_with fail
 go_ret;exact⟨by rw[HQ.out];rfl,HB3.out⟩
theorem Za(a c:Array Value)(x:Value)(h:a.size=32)(hc:c.size=33)(h0:c[0]?=some x):Array.foldl (fun cs (y:Value×Nat)=>cs.setIfInBounds (1+y.2) y.1) c a.zipIdx 0 32=(x::a.toList).toArray:=by
 have e:=Cq 1 a c (by omega)
 have hz:a.zipIdx.size=32:=by rw[FH];exact h
 rw[hz] at e;refine e.trans ?_
 have e1:c.toList.take 1=[x]:=by
  rw[List.take_one,List.head?_eq_getElem?,bV,h0];rfl
 rw[e1,kR (by rw[aR];omega),fF];rfl
theorem WU(s:Sha.St):kG s.byte=(Lib.strCells (Az s.byte)).toArray:=by
 apply fD.1
 have e1:(kG s.byte).toList=(List.range 32).map fun i=>Value.int .u8 (s.byte i):=rfl
 have e2:(Lib.strCells (Az s.byte)).toArray.toList=((List.range 32).map fun j=>UInt8.ofNat (s.byte j)).map fun b=>Value.int .u8 b.toNat:=rfl
 rw[e1,e2,List.map_map]
 refine qR fun i _=>?_
 show Value.int .u8 _=Value.int .u8 _;rw[Vs,aaV (show s.byte i<256 from kU _ (by decide))]
theorem CB(t:ah)(ht:t.size<140737488355328)(w:aj)(hR:jw w):
  Calls Tryz.prog 124 #[.string t] w fun e w'=>e=.returned (.agg (Lib.strCells (gM t)).toArray)/\Below w.heap.size w w':=by
 refine(WS Ia t ht w hR KJ).mono ?_;rintro e w' ⟨s,hs,rfl,hb⟩;exact⟨by rw[WU,hs.out];rfl,hb⟩
theorem Dj{r c:ah}(e:dm)(tv:∃ao n c,vo=.slice ao n c)(tr:∃ao n c,vr=.slice ao n c)(ti:bG w vi e.ins)(tm:bG w vm e.impl)(hi:e.ins.length<=10000)(hm:e.impl.length<=10000):
  Calls Tryz.prog 244 #[.agg #[vo,vi,vm,vr,.string r,.string c]] w fun e' w'=>∃v,e'=.returned v/\w'.ownsRow w.heap.size 9 1 v (fK e).length ((fK e).map Value.string)/\Below w.heap.size w w':=by
 obtain⟨mY,nO,cO,rfl⟩:=tv;obtain⟨nC,nR,cR,rfl⟩:=tr
 obtain⟨kz,nI,cI,MC⟩:∃ao n c,vi=.slice ao n c:=by obtain⟨ao,cap,e,_⟩:=ti;exact⟨ao,_,cap,e⟩
 obtain⟨lH,nM,cM,Wj⟩:∃ao n c,vm=.slice ao n c:=by obtain⟨ao,cap,e,_⟩:=tm;exact⟨ao,_,cap,e⟩
 subst MC Wj;obtain⟨W1,hW1⟩:∃W1,W1=w.alloc (.cells #[.slice mY nO cO,.slice kz nI cI,.slice lH nM cM,.slice nC nR cR,.string r,.string c] 63):=⟨_,rfl⟩
 have hb1:Below w.heap.size w W1:=by rw[hW1];exact(au _ _).alloc (ai _) _
 obtain⟨W2,hW2⟩:∃W2,W2=W1.alloc (.cells #[.slice kz nI cI,.slice lH nM cM] 32):=⟨_,rfl⟩
 have hb2:Below w.heap.size w W2:=by rw[hW2];exact hb1.alloc hb1.size _
 have hrow:W2.heap[W1.heap.size]?=some (.cells #[.slice kz nI cI,.slice lH nM cM] 32 (0,0)):=by rw[hW2];exact aW _ _ _ rfl
 have hC:=DR [(.slice kz nI cI,e.ins),(.slice lH nM cM,e.impl)] W1.heap.size W2 (fun i x hx=>by
  match i,hx with
  |0,hx=>obtain rfl:=ak hx;exact⟨by rw[bZ hrow];rfl,ti.gY hb2⟩
  |1,hx=>obtain rfl:=ak hx;exact⟨by rw[bZ hrow];rfl,tm.gY hb2⟩
  |i+2,hx=>cases hx) (show 2<=10 by decide) (fun x hx=>by
  rcases aV.1 hx with rfl|hx
  ·exact hi
  obtain rfl:=bg.1 hx
  exact hm)
 have hfl:oK [(.slice kz nI cI,e.ins),(.slice lH nM cM,e.impl)]=fK e:=by simp[oK,fK]
 rw[hfl] at hC;have HC:=aP hC;have HB2:=aP hb2
 have HW:Hid (W2=(w.alloc (.cells #[.slice mY nO cO,.slice kz nI cI,.slice lH nM cM,.slice nC nR cR,.string r,.string c] 63)).alloc (.cells #[.slice kz nI cI,.slice lH nM cM] 32)):=by rw[hW2,hW1];rfl
 have HZ:Hid (W1.heap.size=w.heap.size+1):=by rw[hW1];exact bJ _ _
 rw[HZ.out] at HC;clear hW1 hW2 hb1 hb2 hrow ti tm hi hm hfl hC
 go_enter Tryz.func244,Tryz.ntmps244
 go_wp2_with fail
 rw[<-HW.out];refine HC.out.mono ?_;rintro e1 w3 ⟨v,rfl,hv3,hb3⟩;have HF:Hid (w3.ownsRow w.heap.size 9 1 v (fK e).length ((fK e).map Value.string)/\Below w.heap.size w w3):=⟨vZ hv3 HB2.out.size,HB2.out.trans (hb3.mono HB2.out.size)⟩;clear hv3 hb3 HC
 go_wp2
 go_ret;exact⟨_,rfl,HF.out⟩
variable {x:ah}
theorem Td{d:ah}(hd:dG r x=some d):(fun y=>if y=x then some (Value.agg (oV d).toArray) else wM (ic r l) y)=wM (ic r (l++[x])):=by
 funext y
 unfold wM ic
 have hm:eT y (l++[x])=(eT y l||decide (x=y)):=by unfold eT;simp
 rw[hm]
 by_cases q:y=x
 ·subst q;rw[aD rfl,bN rfl,Bool.or_true,aD rfl,hd];rfl
 rw[ax q,bH (fun e=>q e.symm),Va]
theorem Tc(h:eT x l=true):ic r (l++[x])=ic r l:=by
 funext y
 unfold ic
 have hm:eT y (l++[x])=(eT y l||decide (x=y)):=by unfold eT;simp
 rw[hm]
 by_cases q:x=y
 ·subst q;rw[h];rfl
 rw[bH q,Va]
theorem Hz(h:jE r l=true)(x:ah):(ic r l x).isSome=eT x l:=by
 unfold ic
 by_cases q:eT x l=true
 ·rw[aD q,q];exact qZ.1 h x (mQ.1 q)
 rw[ax q];rw[Bool.not_eq_true] at q;rw[q];rfl
def afy(A:Nat->Nat)(a:Nat->Addr)(t:Nat->ah)(left fb jb lb:Nat)(J:eZ)(l:List ah)(w:aj)(e:Ending)(w':aj):Prop:=
 ∃A' v,e=.returned (.tuple #[v,.bool (jE J.r l)])/\iA A' a t left fb jb lb J w'/\(∀k,k<w.heap.size->A' k=A k)/\aQ (JF A) w w'/\
  ((jE J.r l=false/\v=.map none)\/(jE J.r l=true/\∃mb n,v=.map (some mb)/\MJ w' mb n (ic J.r l)/\A' mb=9/\mb<w'.heap.size))
structure tF(A:Nat->Nat)(a:Nat->Addr)(t:Nat->ah)(left fb jb lb:Nat)(J:eZ)(l:List ah)(w:aj)(gF mb n j:Nat)(A':Nat->Nat)(wr:aj):Prop where
 site:iA A' a t left fb jb lb J wr
 hA:∀k,k<w.heap.size->A' k=A k
 turns:aQ (JF A) w wr
 cells:∀k s,l[k]?=some s->wr.cell? ⟨gF,k,none⟩=some (.string s)
 zero:(0<l.length->A' gF=0)/\A' mb=9
 map:MJ wr mb n (ic J.r (l.take j))
 there:jE J.r (l.take j)=true
 le:n<=j
 new:w.heap.size<=mb
variable {gF mb n j:Nat}{wr:aj}
theorem tF.below(h:tF A a t left fb jb lb J l w gF mb n j A' wr)(hb:Below wr.heap.size wr w'):tF A a t left fb jb lb J l w gF mb n j A' w':=
 ⟨h.site.below hb,h.hA,h.turns.trans (aQ.of_below (JF A) hb) (fun _ hk=>aG hk),fun k s hs=>(hb.cell (p:=⟨gF,k,none⟩) (aC (h.cells k s hs))).trans (h.cells k s hs),h.zero,dU.keep h.map (hb.block mb (dU.lt h.map)),h.there,h.le,h.new⟩
theorem tF.stored(h:tF A a t left fb jb lb J l w gF mb n j A' wr)(hx:l.take (j+1)=l.take j++[x])(hs:(dG J.r x).isSome=true)(hm:MJ w' mb (n+1) (ic J.r (l.take (j+1))))(hg:wr.grownBy w' (some mb)):tF A a t left fb jb lb J l w gF mb (n+1) (j+1) A' w':=by
 have SN:=dU.lt h.map
 have hkp:∀k,k<wr.heap.size->A' k≠9->w'.heap[k]?=wr.heap[k]?:=fun k hk hn=>hg.block k hk (fun e=>hn (by rw[ak e];exact h.zero.2))
 have hT:aQ (JF A) w w':=by
  refine h.turns.trans (aQ.TJ hg) (fun k hk=>aL ?_);rw[<-ak hk];exact h.new
 refine⟨h.site.keep hg.size (fun _ _=>rfl) (fun k hk h8=>hkp k hk (by omega)) (fun k hk=>h.site.above k (aA hg.size hk)),h.hA,hT,fun k s hs=>(aB (w:=wr) (a:=⟨gF,k,none⟩) (hkp gF (aC (h.cells k s hs)) (by rw[h.zero.1 (by have:=(aJ.1 hs).1;omega)];decide))).trans (h.cells k s hs),h.zero,hm,?_,by have:=h.le;omega,h.new⟩;rw[hx];have h2:=h.there;unfold jE at h2⊢;rw[Mv,h2,Bc,hs];rfl
theorem tF.after(h:tF A a t left fb jb lb J l w gF mb n j A' wr)(he:dF A' a t left fb jb lb J wr w'):∃A2,tF A a t left fb jb lb J l w gF mb n j A2 w':=by
 obtain⟨A2,h1,h2,h3⟩:=he;have SN:=dU.lt h.map
 have hz:∀k,k<wr.heap.size->A' k=0->w'.heap[k]?=wr.heap[k]?:=fun k hk h0=>h3.block k hk (fun q=>by unfold JF at q;omega)
 exact⟨A2,h1,fun k hk=>(h2 k (ay hk h.turns.size)).trans (h.hA k hk),je h.hA h.turns h3,fun k s hs=>(aB (w:=wr) (a:=⟨gF,k,none⟩) (hz gF (aC (h.cells k s hs)) (h.zero.1 (by have:=(aJ.1 hs).1;omega)))).trans (h.cells k s hs),⟨fun hl=>by
  obtain⟨s,hs⟩:∃s,l[0]?=some s:=⟨l[0]'hl,by simp⟩
  rw[h2 gF (aC (h.cells 0 s hs))];exact h.zero.1 hl,by rw[h2 mb SN];exact h.zero.2⟩,dU.keep h.map (h3.block mb SN (fun q=>by have:=h.zero.2;unfold JF at q;omega)),h.there,h.le,h.new⟩
variable {rl cm:ah}
theorem Lx(h:iA A a t left fb jb lb J w)(e:dm)(tv:∃ao n c,vo=.slice ao n c)(tr:∃ao n c,vr=.slice ao n c)(ti:bG w vi e.ins)(tm:bG w vm e.impl)(hi:e.ins.length<=10000)(hm:e.impl.length<=10000)(hx:∀x∈dZ e,x.size<=32):
  Calls Tryz.prog 164 #[.pointer (some ⟨jb,0,none⟩),.agg #[vo,vi,vm,vr,.string rl,.string cm]] w (afy A a t left fb jb lb J (fK e) w):=by
 obtain⟨W1,hW1⟩:∃W1,W1=(w.alloc (.cells #[vo,vi,vm,vr,.string rl,.string cm] 63)).alloc (.map #[] 0):=⟨_,rfl⟩;have hsz:(w.alloc (.cells #[vo,vi,vm,vr,.string rl,.string cm] 63)).heap.size=w.heap.size+1:=bJ _ _
 have hB1:Below w.heap.size w W1:=by rw[hW1];exact((au _ _).alloc (ai _) _).alloc (by omega) _
 have HM1:Hid (MJ W1 (w.heap.size+1) 0 (ic J.r [])):=by
  have h1:=dU.made GI (.agg kX) Uk (w.alloc (.cells #[vo,vi,vm,vr,.string rl,.string cm] 63));rw[hsz,<-hW1] at h1;exact h1
 have HFR:=aY (Dj (w:=W1) (r:=rl) (c:=cm) e tv tr (ti.gY hB1) (tm.gY hB1) hi hm);have HS:=aY h;have HB1:=aY hB1;have Yw:Hid ((∀x∈fK e,x.size<=32)/\(fK e).length<=20000):=⟨fun x hq=>hx x (by unfold fK at hq;unfold dZ;rw[<-eH];exact fq _ hq),by unfold fK;rw[aF];omega⟩;have HW1:=aY hW1;obtain⟨mY,nO,cO,rfl⟩:=tv;obtain⟨nC,nR,cR,rfl⟩:=tr;obtain⟨kz,cI,rfl,_,_⟩:=ti;obtain⟨lH,cM,rfl,_,_⟩:=tm
 have ca:∀i u,(#[.slice mY nO cO,.slice kz e.ins.length cI,.slice lH e.impl.length cM,.slice nC nR cR,.string rl,.string cm]:Array Value)[i]?=some u->W1.cell? ⟨w.heap.size,i,none⟩=some u:=fun i u hu=>by
  rw[hW1];refine(aB (a:=⟨w.heap.size,i,none⟩) (aZ _ _ w.heap.size (by omega))).trans ?_;rw[bZ (aW _ _ _ rfl)];exact hu
 have a0:=ca 0 _ rfl;have a1:=ca 1 _ rfl;have a2:=ca 2 _ rfl;have a3:=ca 3 _ rfl;have a4:=ca 4 _ rfl;have a5:=ca 5 _ rfl
 have hmk:(Instr.makeMap 258 none).run Tryz.prog (w.alloc (.cells #[.slice mY nO cO,.slice kz e.ins.length cI,.slice lH e.impl.length cM,.slice nC nR cR,.string rl,.string cm] 63))=.ok (.map (some (w.heap.size+1))) W1:=by
  rw[hW1,<-hsz]
  simp[Instr.makeMap,go_sem]
 clear ca hW1 hB1 hx hi hm h
 go_enter Tryz.func164,Tryz.ntmps164
 go_wp2_with fail
 refine HFR.out.mono ?_;rintro e2 w2 ⟨v,rfl,hrow,hb2⟩;obtain⟨af,Al,hvf,_,hgf⟩:=bq hrow
 obtain⟨gF,hgF⟩:∃gF,0<(fK e).length->af=some ⟨gF,0,none⟩:=by
  by_cases q:0<(fK e).length
  ·obtain⟨g,hg⟩:=hgf q;exact⟨g,fun _=>hg⟩
  exact⟨0,fun h=>absurd h q⟩
 have ahp:Hid (tF A a t left fb jb lb J (fK e) w gF (w.heap.size+1) 0 0 (fun k=>if k=w.heap.size+1 then 9 else A k) w2):=by
  have hb:=HB1.out.trans (hb2.mono HB1.out.size);refine⟨HS.out.keep hb.size (fun k hk=>ax (by omega)) (fun k hk _=>hb.block k hk) (fun k hk=>(ax (by have:=dU.lt HM1.out;have:=hb2.size;omega)).trans (HS.out.above k (aA hb.size hk))),fun k hk=>ax (by omega),aQ.of_below _ hb,fun k s hs=>?_,⟨fun hl=>?_,aD rfl⟩,dU.keep HM1.out (hb2.block _ (dU.lt HM1.out)),rfl,ai _,fB _⟩
  ·have hl:0<(fK e).length:=by have:=(aJ.1 hs).1;omega
   rw[hvf,hgF hl] at hrow;exact(dO hrow k _ (by rw[dM,hs];rfl)).1
  rw[hvf,hgF hl] at hrow;have h1:=(bA hrow gF rfl).1;exact(ax (by have:=dU.lt HM1.out;omega)).trans (HS.out.above _ (aA HB1.out.size h1))
 have HGF:=aY hgF;subst hvf;generalize hL:(fK e).length=L at*;have HL:=aY hL
 have l0:(L:Int)<=20000:=by have:=Yw.out.2;omega
 generalize w.heap.size+1=mb at*;clear hrow hb2 HFR a0 a1 a2 a3 a4 a5 hgf hgF hmk hL HM1
 go_wp2_with fail
 go_loopw [17] (fun i wr=>∃(j n:Nat) (A':Nat->Nat),i=.int .i64 j/\j<=L/\tF A a t left fb jb lb J (fK e) w gF mb n j A' wr) (fun i _=>L-(intOf i).toNat)
 case atStart=>exact⟨0,0,_,rfl,aN _,ahp.out⟩
 case round=>
  clear ahp;obtain⟨j,n,A',rfl,hj,hmid⟩:=hrel;have HM:=aY hmid
  have j0:(0:Int)<=(j:Int):=by omega
  by_cases hlt:j<L
  ·have j1:(j:Int)<(L:Int):=by omega
   obtain⟨x,hx⟩:∃x,(fK e)[j]?=some x:=⟨(fK e)[j]'(by have:=HL.out;omega),by simp⟩;obtain rfl:=HGF.out (by omega);have cx:=hmid.cells j x hx;have hxs:=Yw.out.1 x (aO hx);have hlk:=dU.look_ok hmid.map (t:=258) Tryz.underlying258 Eo x (by unfold maxLen;omega);obtain⟨Y,hY,hYl,hYo,_⟩:=EW (ic J.r ((fK e).take j)) x
   have hkn:(wM (ic J.r ((fK e).take j)) x).isSome=eT x ((fK e).take j):=by unfold wM;rw[Yz,Hz hmid.there]
   rw[hY,hkn] at hlk
   have HI:Hid ((Tryz.prog.info? 265).map (·.size)=some 33):=by unfold Hid;kernel_rfl
   have HC:Hid ((Value.string ((ic J.r ((fK e).take j) x).getD ⟨#[]⟩)::Y).toArray.size=33/\(Value.string ((ic J.r ((fK e).take j) x).getD ⟨#[]⟩)::Y).toArray.all (·.oneCell')=true):=⟨by rw[bT,aS,hYl],dY (fun u hu=>by
    rcases aV.1 hu with rfl|hu
    ·rfl
    exact hYo u hu)⟩
   have HXI:=aY (aO hx);have Br:Hid ((fK e).take (j+1)=(fK e).take j++[x]/\x.size<=32):=⟨by rw[dN,hx];rfl,hxs⟩;clear hY hYl hYo hkn hxs hx hmid;generalize (Value.string ((ic J.r ((fK e).take j) x).getD ⟨#[]⟩)::Y).toArray=C at*;generalize hkk:eT x ((fK e).take j)=kn at*;have HKK:=aY hkk
   go_wp2_with (first
    | (refine bU (w:=wr.alloc (.cells kX 265)) rfl 265 (.tmp 9) (.tmp 25) rfl wr.heap.size 0 C rfl rfl (bM (aW _ _ _ rfl) 0 _ (by rw[HC.out.1];decide)) (by rw[HC.out.1];exact HI.out) HC.out.2 ?_;refine dI ?_)
    |fail)
   have HM2:Hid (tF A a t left fb jb lb J (fK e) w gF mb n j A' ((wr.alloc (.cells kX 265)).setCells wr.heap.size 0 C.toList)):=HM.out.below (ji _ _ ((au _ _).alloc (ai _) _) (ai _));clear HM hlk cx hkk;generalize (wr.alloc (.cells kX 265)).setCells wr.heap.size 0 C.toList=w3 at*
   rcases kn with _|_
   ·obtain⟨ub,m,v1,v2,v3,v4,dV⟩:=HM2.out.site.job
    have c0:w3.cell? ⟨jb,0,none⟩=some (.pointer (some ⟨fb,0,none⟩)):=by rw[bZ dV.row];rfl
    have hd2:((dG J.r x).getD ⟨#[]⟩).size<=65536:=HM2.out.site.size x;have CO:=aY (Gr HM2.out.site x (by have:=Br.out.2;omega));clear dV;unfold Hid
    go_wp2_with fail
    refine CO.out.mono ?_;rintro e3 w4 ⟨ve,rfl,hve,hse⟩;obtain⟨A4,hm4⟩:=HM2.out.after hse;have qY:=aY hm4;clear hse hm4 c0 CO HM2
    rcases hve with ⟨hso,rfl⟩|⟨hno,rfl⟩
    ·obtain⟨d,hd⟩:=fI.1 hso;rw[hd] at hd2;have hd2:d.size<=65536:=hd2;have HD:=aP (aK hd hd2);have HSM:=aY (CB d (by omega) w4 qY.out.site.rounds);have HSS:Hid ((Lib.strCells (gM d)).toArray.size=32/\(Lib.strCells (gM d)).toArray.toList=Lib.strCells (gM d)):=⟨by rw[bT,Lib.strCells_length,kN],rfl⟩;rw[hd];simp only[bY];clear hd hd2 hso;generalize (Lib.strCells (gM d)).toArray=SM at*
     go_wp2_with fail
     refine HSM.out.mono ?_;rintro e5 w5 ⟨rfl,hb5⟩;have Aa:=aY (qY.out.below hb5);have hss:=HSS.out.1;clear hb5 HSM qY
     go_wp2_with (first
      | (rw[Za SM _ (.string d) HSS.out.1];rotate_left;rfl;rfl;refine dI ?_)
      |fail)
     have HST:Hid (∃w9,(Instr.mapUpdate 258 (.map (some mb)) (.string x) (.agg (Value.string d::SM.toList).toArray)).run Tryz.prog w5=.ok () w9/\tF A a t left fb jb lb J (fK e) w gF mb (n+1) (j+1) A4 w9):=by
      rw[HSS.out.2];have hm:=Aa.out;obtain⟨w9,h1,h2,h3⟩:=dU.store hm.map (t:=258) Tryz.underlying258 (by have:=hm.le;unfold maxLen;omega) x (by have:=Br.out.2;unfold maxLen;omega) (.agg (oV d).toArray) (Xe d);rw[Td HD.out.1,<-Br.out.1] at h2;exact⟨w9,h1,hm.stored Br.out.1 (by rw[HD.out.1];rfl) h2 h3⟩
     obtain⟨w9,hst,hm9⟩:=HST.out;have XA:=aY hm9;clear hm9 HST Aa hss;unfold Hid
     go_wp2_with fail
     exact⟨⟨j+1,n+1,A4,by go_num,by omega,XA.out⟩,by simp[intOf];omega⟩
    have uR:Hid (jE J.r (fK e)=false):=by
     unfold Hid jE;rw[Yx];exact⟨x,HXI.out,by rw[hno];exact eX⟩
    rw[hno];simp only[jC];clear hno hd2;unfold jS
    go_wp2_with fail
    go_ret2;exact⟨A4,.map none,by rw[uR.out];rfl,qY.out.site,qY.out.hA,qY.out.turns,aG ⟨uR.out,rfl⟩⟩
   have HM3:Hid (tF A a t left fb jb lb J (fK e) w gF mb n (j+1) A' w3):=by
    have h:=HM2.out;refine⟨h.site,h.hA,h.turns,h.cells,h.zero,?_,?_,by have:=h.le;omega,h.new⟩
    ·rw[Br.out.1,Tc HKK.out];exact h.map
    rw[Br.out.1];unfold jE;rw[Mv];have h1:=qZ.1 h.there x (mQ.1 HKK.out);have h2:=h.there;unfold jE at h2;rw[h2,Bc,h1];rfl
   clear HM2;unfold Hid
   go_wp2_with fail
   exact⟨⟨j+1,n,A',by go_num,by omega,HM3.out⟩,by simp[intOf];omega⟩
  obtain rfl:j=L:=by omega
  have HF:Hid (jE J.r (fK e)=true/\MJ wr mb n (ic J.r (fK e))):=by
   have h1:=HM.out.there;have h2:=HM.out.map;rw[bF (dx HL.out)] at h1 h2;exact⟨h1,h2⟩
  clear hmid
  go_wp2_with fail
  go_ret2;exact⟨A',.map (some mb),by rw[HF.out.1];rfl,HM.out.site,HM.out.hA,HM.out.turns,aL ⟨HF.out.1,mb,n,rfl,HF.out.2,HM.out.zero.2,dU.lt HF.out.2⟩⟩
def tX(A:Nat->Nat)(w:aj)(v:Value)(l:List ah):Prop:=bG w v l/\(l≠[]->∀b,v.ownBlock=some b->A b=0)
theorem tX.turns(h:tX A w v l)(ht:aQ (JF A) w w'):bG w' v l:=by
 obtain⟨⟨ao,cap,rfl,hc,h1|⟨b,o,rfl,h1⟩⟩,hz⟩:=h
 ·exact⟨ao,cap,rfl,hc,aG h1⟩
 refine⟨_,cap,rfl,hc,aL ⟨b,o,rfl,fun k s hs=>?_⟩⟩;refine(aB (w:=w) (a:=⟨b,o+k,none⟩) (ht.block b (aC (h1 k s hs)) (fun q=>?_))).trans (h1 k s hs);have h0:=hz (fun e=>by rw[e] at hs;simp at hs) b rfl;unfold JF at q;omega
theorem bG.lt(h:bG w v l)(hl:l≠[])(b:Nat)(hb:v.ownBlock=some b):b<w.heap.size:=by
 obtain⟨ao,cap,rfl,_,h1|⟨g,o,rfl,h1⟩⟩:=h
 ·exact absurd h1.2.1 hl
 obtain⟨x,hx⟩:∃x,l[0]?=some x:=⟨l[0]'(fZ.2 hl),by simp⟩;rw[<-ak hb];exact aC (h1 0 x hx)
theorem tX.later(h:tX A w v l)(hA:∀k,k<w.heap.size->A' k=A k)(ht:aQ (JF A) w w'):tX A' w' v l:=⟨h.turns ht,fun hl b hb=>(hA b (h.1.lt hl b hb)).trans (h.2 hl b hb)⟩
theorem PO(h:iA A a t left fb jb lb J w)(ht:tX A w v l)(hl:l.length<=100000)(hx:∀x∈l,x.size<=32):
  Calls Tryz.prog 165 #[.pointer (some ⟨jb,0,none⟩),v] w fun e w'=>e=.returned (.bool (jE J.r l))/\dF A a t left fb jb lb J w w':=by
 have HT:=aY ht;have HS:=aY h;have HX:=aY hx;obtain⟨⟨ao,cap,rfl,_,_⟩,_⟩:=ht;generalize hL:l.length=L at*;have HL:=aY hL
 have l0:(L:Int)<=100000:=by omega
 clear h hx hL
 go_enter Tryz.func165,Tryz.ntmps165
 go_wp2_with fail
 go_loopw [11] (fun i wr=>∃(j:Nat) (A':Nat->Nat),i=.int .i64 j/\j<=L/\jE J.r (l.take j)=true/\iA A' a t left fb jb lb J wr/\(∀k,k<w.heap.size->A' k=A k)/\aQ (JF A) w wr) (fun i _=>L-(intOf i).toNat)
 case atStart=>exact⟨0,A,rfl,aN _,rfl,HS.out,fun _ _=>rfl,aQ.refl _ _⟩
 case round=>
  obtain⟨j,A',rfl,hj,hth,hs,hA,htu⟩:=hrel;have HM:=aP (aK hth (aK hs (aK hA htu)))
  have j0:(0:Int)<=(j:Int):=by omega
  by_cases hlt:j<L
  ·have j1:(j:Int)<(L:Int):=by omega
   obtain⟨x,hx⟩:∃x,l[j]?=some x:=⟨l[j]'(by have:=HL.out;omega),by simp⟩;obtain⟨Bl,cap',e5,_,h6⟩:=HT.out.turns htu;injection e5 with f1 f2 f3
   rcases h6 with ⟨_,q,_⟩|⟨b,o,q,hct⟩
   ·exfalso;rw[q] at hx;simp at hx
   rw[q] at f1;subst f1;have cx:=hct j x hx;obtain⟨ub,m,v1,v2,v3,v4,dV⟩:=hs.job
   have c0:wr.cell? ⟨jb,0,none⟩=some (.pointer (some ⟨fb,0,none⟩)):=by rw[bZ dV.row];rfl
   have CO:=aY (Gr hs x (by have:=HX.out x (aO hx);omega));have Br:Hid (l.take (j+1)=l.take j++[x]/\x∈l):=⟨by rw[dN,hx];rfl,aO hx⟩;clear dV hct hx hth hs hA htu f2 f3
   go_wp2_with fail
   refine CO.out.mono ?_;rintro e3 w4 ⟨ve,rfl,hve,A4,hs4,hA4,ht4⟩;have qY:Hid (iA A4 a t left fb jb lb J w4/\(∀k,k<w.heap.size->A4 k=A k)/\aQ (JF A) w w4):=⟨hs4,fun k hk=>(hA4 k (ay hk HM.out.2.2.2.size)).trans (HM.out.2.2.1 k hk),je HM.out.2.2.1 HM.out.2.2.2 ht4⟩;clear hs4 hA4 ht4 c0 CO cx
   rcases hve with ⟨hso,rfl⟩|⟨hno,rfl⟩
   ·have HTH:Hid (jE J.r (l.take (j+1))=true):=by
     have h2:=HM.out.1;show jE _ _=true;unfold jE at h2⊢;rw[Br.out.1,Mv,h2,Bc,hso];rfl
    clear hso;generalize (dG J.r x).getD ⟨#[]⟩=d at*
    go_wp2_with fail
    exact⟨⟨j+1,A4,by go_num,by omega,HTH.out,qY.out⟩,by simp[intOf];omega⟩
   have uR:Hid (jE J.r l=false):=by
    unfold Hid jE;rw[Yx];exact⟨x,Br.out.2,by rw[hno];exact eX⟩
   clear hno;generalize (dG J.r x).getD ⟨#[]⟩=d at*;unfold jS
   go_wp2_with fail
   go_ret;exact⟨by rw[uR.out];rfl,A4,qY.out⟩
  obtain rfl:j=L:=by omega
  have HF:Hid (jE J.r l=true):=by have h1:=HM.out.1;rw[bF (dx HL.out)] at h1;exact h1
  clear hth hs hA htu
  go_wp2_with fail
  go_ret;exact⟨by rw[HF.out];rfl,A',HM.out.2⟩
theorem Ak{b:Nat}{t:ah}{k:Nat}{cs:Array Value}(h:dP w b t)(hk:w.heap[k]?=some (.cells cs 9 (0,0))):k≠b:=by
 intro e;subst e
 rcases h with ⟨_,v,hb,_⟩|⟨_,v,hb,_⟩<;>
 ·rw[hk] at hb;injection ak hb with _ e _;exact absurd e (by decide)
def oF:Array Value:=#[.int .u8 0,.int .u8 0,.int .u8 0,.int .u8 0,.int .u8 0,.int .u8 0,.int .u8 0,.int .u8 0,.int .u8 0,.int .u8 0,.int .u8 0,.int .u8 0,.int .u8 0,.int .u8 0,.int .u8 0,.int .u8 0,.int .u8 0,.int .u8 0,.int .u8 0,.int .u8 0,.int .u8 0,.int .u8 0,.int .u8 0,.int .u8 0,.int .u8 0,.int .u8 0,.int .u8 0,.int .u8 0,.int .u8 0,.int .u8 0,.int .u8 0,.int .u8 0]
theorem Dt(f:ah->Option ah):∀(l:List ah) (t:ah),(∀x∈l,x.size<=32)->(ow f l t).size<=t.size+l.length*65
 |[],t,_=>by show t.size<=t.size+0;omega
 |x::l,t,h=>by
  have h1:=Dt f l (t++x++⟨#[0]⟩++gM ((f x).getD ⟨#[]⟩)) (fun y hy=>h y (aU _ hy));have h2:=h x (aM ..)
  have h3:(t++x++⟨#[0]⟩++gM ((f x).getD ⟨#[]⟩)).size=t.size+x.size+1+32:=by
   rw[aH,aH,aH,kN];rfl
  show(ow f l (t++x++⟨#[0]⟩++gM ((f x).getD ⟨#[]⟩))).size<=_;rw[aS,Nat.succ_mul];omega
theorem Ja{f:ah->Option ah}(hm:MJ w mb n f)(e:dm)(hall:∀x∈fK e,(f x).isSome=true)(tv:∃ao n c,vo=.slice ao n c)(tr:∃ao n c,vr=.slice ao n c)(ti:bG w vi e.ins)(tm:bG w vm e.impl)(hi:e.ins.length<=10000)(hmm:e.impl.length<=10000)(hx:∀x∈fK e,x.size<=32)(hcm:cm.size<=1048576)(hR:jw w):
  Calls Tryz.prog 166 #[.agg #[vo,vi,vm,vr,.string rl,.string cm],.map (some mb)] w fun e' w'=>e'=.returned (.agg (Lib.strCells (DW f e cm)).toArray)/\Below w.heap.size w w':=by
 have hsz1:(w.alloc (.cells #[vo,vi,vm,vr,.string rl,.string cm] 63)).heap.size=w.heap.size+1:=bJ _ _
 have CQ:Hid (∀wx,Below w.heap.size w wx->Calls Tryz.prog 244 #[.agg #[vo,vi,vm,vr,.string rl,.string cm]] wx fun e' w'=>∃v,e'=.returned v/\w'.ownsRow wx.heap.size 9 1 v (fK e).length ((fK e).map Value.string)/\Below wx.heap.size wx w'):=fun wx hb=>Dj (w:=wx) (r:=rl) (c:=cm) e tv tr (ti.gY hb) (tm.gY hb) hi hmm
 have HM0:=aY hm;have Rk:Hid ((∀x∈fK e,(f x).isSome=true)/\(∀x∈fK e,x.size<=32)/\(fK e).length<=20000/\cm.size<=1048576):=⟨hall,hx,by unfold fK;rw[aF];omega,hcm⟩;have HR:=aY hR;obtain⟨mY,nO,cO,rfl⟩:=tv;obtain⟨nC,nR,cR,rfl⟩:=tr;obtain⟨kz,cI,rfl,_,_⟩:=ti;obtain⟨lH,cM,rfl,_,_⟩:=tm;obtain⟨W0,hW0⟩:∃W0,W0=((w.alloc (.cells #[.slice mY nO cO,.slice kz e.ins.length cI,.slice lH e.impl.length cM,.slice nC nR cR,.string rl,.string cm] 63)).alloc (.cells oF 217)).alloc (.cells #[.pointer none,.slice none 0 0] 379):=⟨_,rfl⟩
 have hsz2:((w.alloc (.cells #[.slice mY nO cO,.slice kz e.ins.length cI,.slice lH e.impl.length cM,.slice nC nR cR,.string rl,.string cm] 63)).alloc (.cells oF 217)).heap.size=w.heap.size+1+1:=by rw[bJ,hsz1]
 have hb0:Below w.heap.size w W0:=by rw[hW0];exact(((au _ _).alloc (ai _) _).alloc (by omega) _).alloc (by omega) _
 have HB0:=aY hb0
 have HBT:Hid (dP W0 (w.heap.size+1+1) ⟨#[]⟩):=by rw[hW0,<-hsz2];exact uW _
 have HRW:Hid (W0.heap[w.heap.size]?=some (.cells #[.slice mY nO cO,.slice kz e.ins.length cI,.slice lH e.impl.length cM,.slice nC nR cR,.string rl,.string cm] 63 (0,0))/\W0.heap[w.heap.size+1]?=some (.cells oF 217 (0,0))):=by
  rw[hW0];refine⟨?_,?_⟩
  ·rw[aZ _ _ _ (by omega),aZ _ _ _ (by omega)];exact aW _ _ _ rfl
  rw[aZ _ _ _ (by omega)];exact aW _ _ _ hsz1.symm
 have HW0:=aY hW0;have HZ:Hid (oF.size=32):=rfl
 have HI:Hid ((Tryz.prog.info? 217).map (·.size)=some 32):=by unfold Hid;kernel_rfl
 have HI2:Hid ((Tryz.prog.info? 265).map (·.size)=some 33):=by unfold Hid;kernel_rfl
 clear hm hall hx hi hmm hR hW0 hb0
 go_enter Tryz.func166,Tryz.ntmps166
 go_wp2_with fail
 change Calls _ _ _ (((w.alloc (.cells #[.slice mY nO cO,.slice kz e.ins.length cI,.slice lH e.impl.length cM,.slice nC nR cR,.string rl,.string cm] 63)).alloc (.cells oF 217)).alloc (.cells #[.pointer none,.slice none 0 0] 379)) _;rw[<-HW0.out];generalize hbb:w.heap.size+1+1=bb at*;have Rl:=aY hbb;clear hbb;refine(rG bb ⟨#[]⟩ cm W0 HBT.out (by show 0+_<=_;omega)).mono ?_;rintro e1 w1 ⟨rfl,aid,aib⟩;have H1:=aP (aK aid aib);clear aid aib HBT
 go_wp2_with fail
 refine(xA bb _ 0 0 rfl w1 H1.out.1 (by rw[aH];show 0+_+1<=_;omega)).mono ?_;rintro e2 w2 ⟨rfl,afU,aic⟩;have H2:Hid (dP w2 bb (cm++⟨#[0]⟩)/\Below bb W0 w2):=⟨by rw[ByteArray.zh] at afU;exact afU,H1.out.2.trans aic⟩;have hrw:w2.heap[w.heap.size]?=some (.cells #[.slice mY nO cO,.slice kz e.ins.length cI,.slice lH e.impl.length cM,.slice nC nR cR,.string rl,.string cm] 63 (0,0)):=(H2.out.2.block w.heap.size (by have:=Rl.out;omega)).trans HRW.out.1
 have ca:∀i,w2.cell? ⟨w.heap.size,i,none⟩=(#[.slice mY nO cO,.slice kz e.ins.length cI,.slice lH e.impl.length cM,.slice nC nR cR,.string rl,.string cm]:Array Value)[i]?:=fun i=>bZ hrw
 have a0:=ca 0;have a1:=ca 1;have a2:=ca 2;have a3:=ca 3;have a4:=ca 4;have a5:=ca 5;have HB2:Hid (Below w.heap.size w w2):=HB0.out.trans (H2.out.2.mono (by have:=Rl.out;omega));clear afU aic H1 hrw ca
 go_wp2_with fail
 refine(CQ.out w2 HB2.out).mono ?_;rintro e3 w3 ⟨v,rfl,hrow,hb3⟩;obtain⟨af,Al,hvf,_,hgf⟩:=bq hrow;have HB3:Hid (Below w.heap.size w w3/\Below bb W0 w3):=⟨HB2.out.trans (hb3.mono HB2.out.size),H2.out.2.trans (hb3.mono (iM H2.out.1.lt))⟩;have aaF:=aP (H2.out.1.below hb3);have HGF:=aY hgf;have CP:Hid (w3.ownsRow 0 9 1 v (fK e).length ((fK e).map Value.string)):=vZ hrow (aN _);subst hvf;generalize hL:(fK e).length=L at*;have HL:=aY hL
 have l0:(L:Int)<=20000:=by have:=Rk.out.2.2.1;omega
 clear hrow hb3 hgf hL a0 a1 a2 a3 a4 a5 H2 HB2 CQ
 go_wp2_with fail
 go_loopw [16] (fun i wr=>∃j:Nat,i=.int .i64 j/\j<=L/\dP wr bb (ow f ((fK e).take j) (cm++⟨#[0]⟩))/\wr.ownsRow 0 9 1 (.slice af L Al) L ((fK e).map Value.string)/\Below w.heap.size w wr/\Below bb W0 wr) (fun i _=>L-(intOf i).toNat)
 case atStart=>exact⟨0,rfl,aN _,aaF.out,CP.out,HB3.out⟩
 case round=>
  clear aaF CP HB3;obtain⟨j,rfl,hj,hbt,hrow,hbw,hb0⟩:=hrel;have HM:=aP (aK hbt (aK hrow (aK hbw hb0)))
  have j0:(0:Int)<=(j:Int):=by omega
  have HSZ:Hid ((ow f ((fK e).take j) (cm++⟨#[0]⟩)).size<=3000000):=by
   have h1:=Dt f ((fK e).take j) (cm++⟨#[0]⟩) (fun x hx=>Rk.out.2.1 x (Py hx))
   have h2:((fK e).take j).length<=20000:=by rw[gV];have:=Rk.out.2.2.1;omega
   have h3:(cm++⟨#[0]⟩:ah).size=cm.size+1:=by rw[aH];rfl
   have h4:=Rk.out.2.2.2;show _<=_;omega
  by_cases hlt:j<L
  ·have j1:(j:Int)<(L:Int):=by omega
   obtain⟨x,hx⟩:∃x,(fK e)[j]?=some x:=⟨(fK e)[j]'(by have:=HL.out;omega),by simp⟩;obtain⟨gF,rfl⟩:=HGF.out (by omega);have cx:=(dO hrow j (.string x) (by rw[dM,hx];rfl)).1;have hxs:=Rk.out.2.1 x (aO hx);have hlk:=dU.look (dU.keep HM0.out (hbw.block mb (dU.lt HM0.out))) (t:=258) Tryz.underlying258 Eo x (by unfold maxLen;omega);obtain⟨d,hd⟩:=fI.1 (Rk.out.1 x (aO hx));rw[show(wM f x).getD (.agg kX)=.agg (oV d).toArray by unfold wM;rw[hd];rfl] at hlk;have HC:Hid ((oV d).toArray.size=33/\(oV d).toArray.all (·.oneCell')=true/\(oV d).toArray.toList=oV d):=⟨by rw[bT];exact Kv d,dY (Hw d),rfl⟩
   have Ev:Hid (ow f ((fK e).take (j+1)) (cm++⟨#[0]⟩)=ow f ((fK e).take j) (cm++⟨#[0]⟩)++x++⟨#[0]⟩++gM d/\x.size<=32):=⟨by
    unfold ow;rw[dN,hx,lT,yX,jr,hd]
    rfl,hxs⟩
   clear hbt hrow hbw hb0 hx hxs hd;generalize (oV d).toArray=C at*;generalize ow f ((fK e).take j) (cm++⟨#[0]⟩)=T at*
   go_wp2_with (first
    | (refine bU (w:=wr.alloc (.cells kX 265)) rfl 265 (.tmp 8) (.tmp 22) rfl wr.heap.size 0 C rfl rfl (bM (aW _ _ _ rfl) 0 _ (by rw[HC.out.1];decide)) (by rw[HC.out.1];exact HI2.out) HC.out.2.1 ?_;refine dI ?_)
    |fail)
   have HW3:Hid (Below wr.heap.size wr ((wr.alloc (.cells kX 265)).setCells wr.heap.size 0 C.toList)/\((wr.alloc (.cells kX 265)).setCells wr.heap.size 0 C.toList).heap[wr.heap.size]?=some (.cells C 265 (0,0))):=⟨ji _ _ ((au _ _).alloc (ai _) _) (ai _),by
    have h:=uI Tryz.prog (wr.alloc (.cells kX 265)) wr.heap.size 265 kX C.toList (aW _ _ _ rfl) (by rw[aR,HC.out.1];rfl) (fun u hu=>kQ.1 HC.out.2.1 u (uP.1 hu));rw[cK] at h
    exact h⟩
   generalize (wr.alloc (.cells kX 265)).setCells wr.heap.size 0 C.toList=w4 at*;have qY:Hid (dP w4 bb T/\w4.ownsRow 0 9 1 (.slice (some ⟨gF,0,none⟩) L Al) L ((fK e).map Value.string)/\Below w.heap.size w w4/\Below bb W0 w4/\w4.heap[wr.heap.size]?=some (.cells C 265 (0,0))/\bb<wr.heap.size):=⟨HM.out.1.below HW3.out.1,dL HM.out.2.1 (fun k hk=>HW3.out.1.block k (bA HM.out.2.1 k hk).2),HM.out.2.2.1.trans (HW3.out.1.mono HM.out.2.2.1.size),HM.out.2.2.2.trans (HW3.out.1.mono (iM HM.out.1.lt)),HW3.out.2,HM.out.1.lt⟩;generalize wr.heap.size=eb at*;clear HM HW3 cx hlk;unfold Hid
   go_wp2_with fail
   refine(Gb bb T x w4 qY.out.1 (by have:=HSZ.out;have:=Ev.out.2;omega)).mono ?_;rintro e5 w5 ⟨rfl,aie,Wh,af2⟩
   have Aa:Hid (dP w5 bb (T++x)/\w5.ownsRow 0 9 1 (.slice (some ⟨gF,0,none⟩) L Al) L ((fK e).map Value.string)/\Below w.heap.size w w5/\Below bb W0 w5/\w5.heap[eb]?=some (.cells C 265 (0,0))/\bb<eb):=by
    have h:=qY.out;refine⟨aie,dL h.2.1 (fun k hk=>?_),h.2.2.1.trans (Wh.mono (by have:=Rl.out;omega)),h.2.2.2.1.trans Wh,af2 eb _ h.2.2.2.2.1 (fun e=>by have:=h.2.2.2.2.2;have:=ak e;omega) (fun c fz e=>by injection e with _ e _;exact absurd e (by decide)),h.2.2.2.2.2⟩;obtain⟨_,⟨q,_⟩|⟨g,cap,cur,q,_,hh,_⟩⟩:=h.2.1
    ·cases q
    injection q with q _ _
    have e1:gF=g:=by injection q with q;injection q
    have e2:gF=k:=ak hk;subst e1 e2;exact(af2 _ _ hh (fun e=>Ak h.1 hh (ak e)) (fun c fz e=>by injection e with _ e _;exact absurd e (by decide))).trans hh.symm
   clear aie Wh af2 qY
   go_wp2_with fail
   refine(Vx bb (T++x) 0 0 rfl w5 Aa.out.1 (by rw[aH];have:=HSZ.out;have:=Ev.out.2;omega)).mono ?_;rintro e6 w6 ⟨rfl,aif,afS,af3⟩
   have HM6:Hid (dP w6 bb (T++x++⟨#[0]⟩)/\w6.ownsRow 0 9 1 (.slice (some ⟨gF,0,none⟩) L Al) L ((fK e).map Value.string)/\Below w.heap.size w w6/\Below bb W0 w6/\w6.heap[eb]?=some (.cells C 265 (0,0))/\bb<eb):=by
    have h:=Aa.out;refine⟨aif,dL h.2.1 (fun k hk=>?_),h.2.2.1.trans (afS.mono (by have:=Rl.out;omega)),h.2.2.2.1.trans afS,af3 eb _ h.2.2.2.2.1 (fun e=>by have:=h.2.2.2.2.2;have:=ak e;omega) (fun c fz e=>by injection e with _ e _;exact absurd e (by decide)),h.2.2.2.2.2⟩;obtain⟨_,⟨q,_⟩|⟨g,cap,cur,q,_,hh,_⟩⟩:=h.2.1
    ·cases q
    injection q with q _ _
    have e1:gF=g:=by injection q with q;injection q
    have e2:gF=k:=ak hk;subst e1 e2;exact(af3 _ _ hh (fun e=>Ak h.1 hh (ak e)) (fun c fz e=>by injection e with _ e _;exact absurd e (by decide))).trans hh.symm
   clear aif afS af3 Aa
   have NA:Hid (Calls Tryz.prog 247 #[.pointer (some ⟨bb,0,none⟩),.slice (some ⟨eb,1,none⟩) 32 32] w6 fun e w'=>e=.returned (.tuple #[.int .i64 32,.nilIface])/\dP w' bb (T++x++⟨#[0]⟩++gM d)/\Below bb w6 w'/\Lib.OthersKept 5 (some bb) w6 w'):=by
    have h:=Hf bb (T++x++⟨#[0]⟩) (gM d) eb 1 32 w6 HM6.out.1 (fun w' _ ho=>(ho eb _ HM6.out.2.2.2.2.1 (fun e=>by have:=HM6.out.2.2.2.2.2;have:=ak e;omega) (fun c fz e=>by injection e with _ e _;exact absurd e (by decide))).trans HM6.out.2.2.2.2.1.symm) (by rw[aH,aH,kN];have:=HSZ.out;have:=Ev.out.2;show _+_+1+32<=_;omega) (fun k u hu=>by
     rw[bZ HM6.out.2.2.2.2.1,<-bV,HC.out.2.2,Yy]
     exact hu)
    rw[kN] at h;exact h
   go_wp2_with fail
   refine NA.out.mono ?_;rintro e7 w7 ⟨rfl,aii,afT,af4⟩
   have HM7:Hid (dP w7 bb (T++x++⟨#[0]⟩++gM d)/\w7.ownsRow 0 9 1 (.slice (some ⟨gF,0,none⟩) L Al) L ((fK e).map Value.string)/\Below w.heap.size w w7/\Below bb W0 w7/\w7.heap[eb]?=some (.cells C 265 (0,0))/\bb<eb):=by
    have h:=HM6.out;refine⟨aii,dL h.2.1 (fun k hk=>?_),h.2.2.1.trans (afT.mono (by have:=Rl.out;omega)),h.2.2.2.1.trans afT,af4 eb _ h.2.2.2.2.1 (fun e=>by have:=h.2.2.2.2.2;have:=ak e;omega) (fun c fz e=>by injection e with _ e _;exact absurd e (by decide)),h.2.2.2.2.2⟩;obtain⟨_,⟨q,_⟩|⟨g,cap,cur,q,_,hh,_⟩⟩:=h.2.1
    ·cases q
    injection q with q _ _
    have e1:gF=g:=by injection q with q;injection q
    have e2:gF=k:=ak hk;subst e1 e2;exact(af4 _ _ hh (fun e=>Ak h.1 hh (ak e)) (fun c fz e=>by injection e with _ e _;exact absurd e (by decide))).trans hh.symm
   clear aii afT af4 HM6;clear NA HC
   go_wp2_with fail
   exact⟨⟨j+1,by go_num,by omega,by rw[Ev.out.1];exact HM7.out.1,HM7.out.2.1,HM7.out.2.2.1,HM7.out.2.2.2.1⟩,by simp[intOf];omega⟩
  obtain rfl:j=L:=by omega
  have CQ:Hid (Calls Tryz.prog 248 #[.pointer (some ⟨bb,0,none⟩)] wr fun e' w'=>e'=.returned (.string (ow f (fK e) (cm++⟨#[0]⟩)))/\Below bb wr w'):=by
   have h:=uV _ _ wr HM.out.1;rw[bF (dx HL.out)] at h
   exact h.mono fun _ _ ⟨h1,_,h3⟩=>⟨h1,h3⟩
  have HSZ2:Hid ((ow f (fK e) (cm++⟨#[0]⟩)).size<=3000000):=by have h:=HSZ.out;rw[bF (dx HL.out)] at h;exact h
  have HSG:Hid (DW f e cm=gM (ow f (fK e) (cm++⟨#[0]⟩))):=rfl;clear hbt hrow hbw hb0;generalize ow f (fK e) (cm++⟨#[0]⟩)=T at*
  go_wp2_with fail
  refine CQ.out.mono ?_;rintro e5 w5 ⟨rfl,Wh⟩;have H5:Hid (Below w.heap.size w w5/\Below bb W0 w5):=⟨HM.out.2.2.1.trans (Wh.mono (by have:=Rl.out;omega)),HM.out.2.2.2.trans Wh⟩;clear Wh CQ
  go_wp2_with fail
  refine(CB T (by have:=HSZ2.out;omega) w5 (HR.out.later (fun k hk=>H5.out.1.block k hk))).mono ?_;rintro e6 w6 ⟨rfl,hb6⟩
  have H6:Hid (Below w.heap.size w w6/\w6.heap[w.heap.size+1]?=some (.cells oF 217 (0,0))):=by
   have hlt:w.heap.size+1<bb:=by have:=Rl.out;omega
   refine⟨H5.out.1.trans (hb6.mono H5.out.1.size),(hb6.block _ ?_).trans ((H5.out.2.block _ hlt).trans HRW.out.2)⟩;have h1:=HM.out.1.lt;have h2:=H5.out.2.size;have h3:=bI HRW.out.2;omega
  have HSS:Hid ((Lib.strCells (gM T)).toArray.size=32/\(Lib.strCells (gM T)).toArray.all (·.oneCell')=true):=⟨by rw[bT,Lib.strCells_length,kN],dY (fun u hu=>by obtain⟨y,_,rfl⟩:=fH.1 hu;rfl)⟩
  have HSE:Hid ((Lib.strCells (DW f e cm)).toArray=(Lib.strCells (gM T)).toArray):=by rw[HSG.out];rfl
  clear hb6 HSG H5;generalize (Lib.strCells (gM T)).toArray=S at*
  go_wp2_with (first
   | (refine bU rfl 217 (.tmp 4) (.tmp 31) rfl (w.heap.size+1) 0 S rfl rfl (bM H6.out.2 0 _ (by rw[HSS.out.1,HZ.out];decide)) (by rw[HSS.out.1];exact HI.out) HSS.out.2 ?_;refine dI ?_)
   |fail)
  have H7:Hid (Below w.heap.size w (w6.setCells (w.heap.size+1) 0 S.toList)/\(w6.setCells (w.heap.size+1) 0 S.toList).heap[w.heap.size+1]?=some (.cells S 217 (0,0))):=⟨ji _ _ H6.out.1 (fB _),by
   have h:=uI Tryz.prog w6 (w.heap.size+1) 217 oF S.toList H6.out.2 (by rw[aR,HSS.out.1];rfl) (fun u hu=>kQ.1 HSS.out.2 u (uP.1 hu));rw[cK] at h
   exact h⟩
  generalize w6.setCells (w.heap.size+1) 0 S.toList=w7 at*;unfold Hid
  go_wp2_with fail
  refine bP (pI Tryz.results166 _ _ (w.heap.size+1) 217 S (0,0) _ rfl H7.out.2 Tryz.underlying217 rfl (by rw[HSS.out.1];exact HI.out)) rfl ?_;exact⟨by rw[HSE.out],H7.out.1⟩
theorem TB{α β:Type}{f:α->Option β}{g:α->β}:∀l:List α,(∀i∈l,f i=some (g i))->l.mapM f=some (l.map g)
 |[],_=>rfl
 |x::l,h=>by
  rw[List.mapM_cons,h x (aM ..),TB l (fun i hi=>h i (aU _ hi))];rfl
theorem XY(s:ah)(hs:s.size=32):Tryz.prog.keyLits 2 217 (Lib.strCells s)=some (s.data.toList.map fun b=>Lit.int .u8 b.toNat):=by
 have hu:Tryz.prog.underlying 217=some (.array 32 5):=Tryz.underlying217;have hu5:Tryz.prog.underlying 5=some (.int .u8):=Tryz.underlying5
 have hc:Tryz.prog.cellsOf 217=32:=by kernel_rfl
 have hc5:Tryz.prog.cellsOf 5=1:=by kernel_rfl
 have hl:(Lib.strCells s).length=32:=by rw[Lib.strCells_length,hs]
 have hld:s.data.toList.length=32:=hs;unfold Program.keyLits;rw[hu]
 simp only
 rw[aD (by rw[hl,hc]),hc5,TB (g:=fun i=>[Lit.int .u8 (s.data.toList.getD i 0).toNat]) (List.range 32) (fun i hi=>?_)]
 ·rw[nu]
  congr 1
  apply FI;intro i;rw[show(List.map (fun i=>[Lit.int IntKind.u8 (s.data.toList.getD i 0).toNat]) (List.range 32)).flatten=(List.range 32).map fun i=>Lit.int IntKind.u8 (s.data.toList.getD i 0).toNat by rw[<-List.flatMap_def];exact(List.map_eq_flatMap ..).symm]
  by_cases hi:i<32
  ·have hsd:s.data.size=32:=hs
   simp[hi,hsd]
  rw[gK (by simp;omega),gK (by rw[jR,hld];omega)]
 have hi:i<32:=kS.1 hi
 have e:((Lib.strCells s).drop (i*1)).take 1=[Value.int .u8 (s.data.toList.getD i 0).toNat]:=by
  rw[Pz];apply FI;intro j
  cases j with
  |zero=>
   rw[xL,aD (by decide),List.getElem?_drop];unfold Lib.strCells
   simp[hld,hi]
  |succ j=>rw[gK (by rw[gV];omega),gK (by simp)]
 rw[e];unfold Program.keyLits;rw[hu5]
 simp only
 rw[aD];refine⟨trivial,?_⟩;generalize (s.data.toList.getD i 0)=b;have h:=b.toNat_lt;show(decide (IntKind.u8.min<=((b.toNat:Nat):Int))&&decide (((b.toNat:Nat):Int)<=IntKind.u8.max))=true;rw[show IntKind.u8.min=0 from rfl,show IntKind.u8.max=255 from rfl,bN (by omega),bN (by omega)];rfl
theorem XQ(a b:ah)(ha:a.size=32)(hb:b.size=32)(w:aj):(Op.equalIn 10000 217 (.agg (Lib.strCells a).toArray) (.agg (Lib.strCells b).toArray)).run Tryz.prog w=.ok (decide (a=b)) w:=by
 have hc:Tryz.prog.cellsOf 217=32:=by kernel_rfl
 have hf:∀s:ah,s.size=32->(Value.agg (Lib.strCells s).toArray).formed Tryz.prog 217=true:=fun s hs=>by
  unfold Value.formed;rw[Tryz.underlying217]
  simp only
  rw[bT,Lib.strCells_length,hs,hc];rfl
 obtain⟨r,hr,hi⟩:=run_equalIn_deep (P:=Tryz.prog) 9998 2 217 (by kernel_rfl) w 2 2 _ _ _ _ (hf a ha) (hf b hb) (XY a ha) (XY b hb);refine hr.trans ?_
 have e:r=decide (a=b):=by
  have q:(a.data.toList.map fun b=>Lit.int .u8 b.toNat)=(b.data.toList.map fun b=>Lit.int .u8 b.toNat)↔a=b:=by
   constructor
   ·intro h
    have h2:a.data.toList=b.data.toList:=by
     refine List.map_inj_right (fun x y e=>?_)|>.1 h
     injection e with _ e;exact qc.1 (by omega)
    exact ByteArray.ext (fD.1 h2)
   intro h;rw[h]
  rw[q] at hi
  by_cases g:a=b
  ·rw[bN g];exact hi.2 g
  rw[bH g]
  rcases r with _|_
  ·rfl
  exact absurd (hi.1 rfl) g
 rw[e]
