import Derived.Test.YthhbpebihgjpjaaGreatDoorZ19
import Derived.Test.YthhbpebihgjpjaaGreatDoorZ22
import Derived.Test.YthhbpebihgjpjaaGreatDoorZ29
import Derived.Test.YthhbpebihgjpjaaGreatDoorZ35
import Derived.Test.YthhbpebihgjpjaaGreatDoorZ38
namespace Go.Proofs.YthhbpebihgjpjaaGreatDoor
set_option maxRecDepth 1000000
set_option maxHeartbeats 20000000
set_option linter.all false
section
open Go.RowKit Go.Maps
structure qW(A:Nat->Nat)(left jb fb:Nat)(pl:Value)(ub m:Nat)(v1 v2 v3 v4:Value)(J:fB)(w:ak):Prop where
 row:w.heap[jb]?=some (.cells #[.pointer (some ⟨fb,0,none⟩),pl,.map (some ub),v1,v2,v3,v4] 125 (0,0))
 un:nG w ub m J.un
 r1:w.ownsRow 0 9 1 v1 J.ran.length (J.ran.map Value.string)
 r2:w.ownsRow 0 9 1 v2 J.cl.length (J.cl.map Value.string)
 r3:w.ownsRow 0 9 1 v3 J.fa.length (J.fa.map Value.string)
 r4:w.ownsRow 0 9 1 v4 J.bl.length (J.bl.map Value.string)
 cj:A jb=2
 cu:A ub=4
 c1:∀k,v1.ownBlock=some k->A k=5
 c2:∀k,v2.ownBlock=some k->A k=6
 c3:∀k,v3.ownBlock=some k->A k=7
 c4:∀k,v4.ownBlock=some k->A k=8
 lim:m+left<=1000000000000/\J.ran.length+left<=1000000000000/\J.cl.length+left<=1000000000000/\J.fa.length+left<=1000000000000/\J.bl.length+left<=1000000000000
def qf(A:Nat->Nat)(left fb:Nat)(r:bY)(w:ak):Prop:=∃c d,c+left<=900000000000/\jg A 1 c fb d r w/\rY c r d
structure iG(A:Nat->Nat)(a:Nat->Addr)(t:Nat->ah)(left fb jb lb:Nat)(J:fB)(w:ak):Prop where
 env:vP A a t w
 rounds:jC w
 files:qf A left fb J.r w
 job:∃ub m v1 v2 v3 v4,qW A left jb fb (.pointer (some ⟨lb,0,none⟩)) ub m v1 v2 v3 v4 J w
 book:∃mb vn n,jK w lb mb vn n J.L/\(∀k,oJ lb mb vn k->A k=3)/\n+left<=1000000000000/\J.L.count+left<=1000000000000
 above:∀k,w.heap.size<=k->A k=0
theorem bB{p:Prop}(h:p):Hid p:=h
def JF(A:Nat->Nat)(k:Nat):Prop:=1<=A k/\A k<=8
variable {A:Nat->Nat}{left left' fb:Nat}{r:bY}{w:ak}
theorem qf.less(h:qf A left fb r w)(hl:left'<=left):qf A left' fb r w:=by
 obtain⟨c,d,h1,h2⟩:=h;exact⟨c,d,aJ,h2⟩
variable {A':Nat->Nat}{w':ak}
theorem qf.keep(h:qf A left fb r w)(hA:∀k,k<w.heap.size->A' k=A k)(hb:∀k,k<w.heap.size->(A k=1\/A k=0)->w'.heap[k]?=w.heap[k]?):qf A' left fb r w':=by
 obtain⟨c,d,h1,h2,h3⟩:=h;exact⟨c,d,h1,h2.keep (ai _) hA hb,h3⟩
variable {jb ub m:Nat}{pl v1 v2 v3 v4:Value}{J:fB}
theorem qW.less(h:qW A left jb fb pl ub m v1 v2 v3 v4 J w)(hl:left'<=left):qW A left' jb fb pl ub m v1 v2 v3 v4 J w:=
 ⟨h.row,h.un,h.r1,h.r2,h.r3,h.r4,h.cj,h.cu,h.c1,h.c2,h.c3,h.c4,by have:=h.lim;omega⟩
theorem qW.keep(h:qW A left jb fb pl ub m v1 v2 v3 v4 J w)(hA:∀k,k<w.heap.size->A' k=A k)(hb:∀k,k<w.heap.size->(A k=2\/(4<=A k/\A k<=8))->w'.heap[k]?=w.heap[k]?):qW A' left jb fb pl ub m v1 v2 v3 v4 J w':=by
 have ro:∀{v:Value} {n:Nat} {xs:List Value} {c:Nat},w.ownsRow 0 9 1 v n xs->(∀k,v.ownBlock=some k->A k=c)->(4<=c/\c<=8)->w'.ownsRow 0 9 1 v n xs/\∀k,v.ownBlock=some k->A' k=c:=fun {v n xs c} hr hc h4=>⟨dR hr (fun k hk=>hb k (bF hr k hk).2 (aP (by rw[hc k hk];exact h4))),fun k hk=>by rw[hA k (bF hr k hk).2];exact hc k hk⟩
 have q1:=ro h.r1 h.c1 bS;have q2:=ro h.r2 h.c2 bS;have q3:=ro h.r3 h.c3 bS;have q4:=ro h.r4 h.c4 bS;exact⟨(hb jb (bN h.row) (aK h.cj)).trans h.row,eu.keep h.un (hb ub h.un.lt (aP ⟨by rw[h.cu];decide,by rw[h.cu];decide⟩)),q1.1,q2.1,q3.1,q4.1,by rw[hA _ (bN h.row)];exact h.cj,by rw[hA _ h.un.lt];exact h.cu,q1.2,q2.2,q3.2,q4.2,h.lim⟩
theorem qW.with(h:qW A left jb fb pl ub m v1 v2 v3 v4 J w)(r:bY)(L:kD):qW A left jb fb pl ub m v1 v2 v3 v4 {J with r:=r,L:=L} w:=
 ⟨h.row,h.un,h.r1,h.r2,h.r3,h.r4,h.cj,h.cu,h.c1,h.c2,h.c3,h.c4,h.lim⟩
theorem jC.keep(h:jC w)(hb:∀k,k<14->w'.heap[k]?=w.heap[k]?):jC w':=fun i hi=>by
 rw[aF (w:=w) (a:=⟨10,i,none⟩) (hb _ (show 10<14 by decide))];exact h i hi
variable {a:Nat->Addr}{t:Nat->ah}{lb:Nat}
theorem iG.less(h:iG A a t left fb jb lb J w)(hl:left'<=left):iG A a t left' fb jb lb J w:=by
 obtain⟨ub,m,v1,v2,v3,v4,hj⟩:=h.job;obtain⟨mb,vn,n,hb,hc,h1,h2⟩:=h.book;exact⟨h.env,h.rounds,h.files.less hl,⟨ub,m,v1,v2,v3,v4,hj.less hl⟩,⟨mb,vn,n,hb,hc,aJ,aJ⟩,h.above⟩
theorem iG.keep(h:iG A a t left fb jb lb J w)(hs:w.heap.size<=w'.heap.size)(hA:∀k,k<w.heap.size->A' k=A k)(hb:∀k,k<w.heap.size->A k<=8->w'.heap[k]?=w.heap[k]?)(ha:∀k,w'.heap.size<=k->A' k=0):iG A' a t left fb jb lb J w':=by
 obtain⟨ub,m,v1,v2,v3,v4,hj⟩:=h.job;obtain⟨mb,vn,n,hk,hc,h1⟩:=h.book;exact⟨h.env.keep hs hA (fun k hk h0=>hb k hk aJ),h.rounds.keep (fun k hk=>hb k (aB hk h.env.glob) (by rw[h.env.zero k hk];decide)),h.files.keep hA (fun k hk q=>hb k hk aJ),⟨ub,m,v1,v2,v3,v4,hj.keep hA (fun k hk q=>hb k hk aJ)⟩,⟨mb,vn,n,hk.keep (fun k q=>hb k (hk.lt k q) (by rw[hc k q];decide)),fun k q=>by rw[hA k (hk.lt k q)];exact hc k q,h1⟩,ha⟩
theorem iG.below(h:iG A a t left fb jb lb J w)(hb:Below w.heap.size w w'):iG A a t left fb jb lb J w':=h.keep hb.size (fun _ _=>rfl) (fun k hk _=>hb.block k hk) (fun k hk=>h.above k (aC hb.size hk))
def dL(A:Nat->Nat)(a:Nat->Addr)(t:Nat->ah)(left fb jb lb:Nat)(J:fB)(w w':ak):Prop:=
 ∃A',iG A' a t left fb jb lb J w'/\(∀k,k<w.heap.size->A' k=A k)/\aW (JF A) w w'
theorem dL.refl(h:iG A a t left fb jb lb J w)(hb:Below w.heap.size w w'):dL A a t left fb jb lb J w w':=⟨A,h.below hb,fun _ _=>rfl,aW.of_below _ hb⟩
variable {w1 w2:ak}
theorem ji(hA:∀k,k<w.heap.size->A' k=A k)(h1:aW (JF A) w w1)(h2:aW (JF A') w1 w2):aW (JF A) w w2:=
 h1.trans h2 (fun k hk=>by
  by_cases q:k<w.heap.size
  ·left;unfold JF at hk⊢;rw[hA k q] at hk;exact hk
  exact aP aJ)
theorem dL.trans{A1:Nat->Nat}{lb':Nat}(hA:∀k,k<w.heap.size->A1 k=A k)(ht:aW (JF A) w w1)(h2:dL A1 a t left fb jb lb' J w1 w2):dL A a t left fb jb lb' J w w2:=by
 obtain⟨A2,h3,h4,h5⟩:=h2;exact⟨A2,h3,fun k hk=>(h4 k (aB hk ht.size)).trans (hA k hk),ji hA ht h5⟩
theorem dL.less(h:dL A a t left fb jb lb J w w')(hl:left'<=left):dL A a t left' fb jb lb J w w':=by
 obtain⟨A',h1,h2⟩:=h;exact⟨A',h1.less hl,h2⟩
theorem dL.after(hb:Below w.heap.size w w1)(h2:dL A a t left fb jb lb J w1 w2):dL A a t left fb jb lb J w w2:=dL.trans (fun _ _=>rfl) (aW.of_below _ hb) h2
variable {c:Nat}
theorem iG.stepped{r':bY}{d':dX}(h:iG A a t (left+1) fb jb lb J w)(hc:c+left<=900000000000)(hp:jg A' 1 c fb d' r' w')(hI:rY c r' d')(hA:∀k,k<w.heap.size->A' k=A k)(ht:aW (fun k=>A k=1) w w'):dL A a t left fb jb lb {J with r:=r'} w w':=by
 obtain⟨ub,m,v1,v2,v3,v4,hj⟩:=h.job;obtain⟨mb,vn,n,hk,hcb,h1,h2⟩:=h.book;obtain⟨A2,e1,_,e3⟩:=Ga A' w'.heap.size 0 (fun _=>False)
 have hA2:∀k,k<w.heap.size->A2 k=A k:=fun k hk=>(e1 k (aB hk ht.size)).trans (hA k hk)
 have hkp:∀k,k<w.heap.size->A k≠1->w'.heap[k]?=w.heap[k]?:=fun k hk h1=>ht.block k hk h1
 refine⟨A2,⟨h.env.keep ht.size hA2 (fun k hk h0=>hkp k hk aJ),h.rounds.keep (fun k hk=>hkp k (aB hk h.env.glob) (by rw[h.env.zero k hk];decide)),⟨c,d',hc,hp.keep (ai _) e1 (fun _ _ _=>rfl),hI⟩,⟨ub,m,v1,v2,v3,v4,((hj.less (fH _)).keep hA2 (fun k hk q=>hkp k hk aJ)).with r' J.L⟩,⟨mb,vn,n,hk.keep (fun k q=>hkp k (hk.lt k q) (by rw[hcb k q];decide)),fun k q=>by rw[hA2 k (hk.lt k q)];exact hcb k q,aJ,by show J.L.count+left<=_;omega⟩,fun k hk=>e3 k hk id⟩,hA2,ht.mono (fun k q=>⟨by rw[q];decide,by rw[q];decide⟩)⟩
def Eu(A:Nat->Nat)(a:Nat->Addr)(t:Nat->ah)(left fb jb lb:Nat)(J:fB)(q:Int×bY)(w:ak)(e:Ending)(w':ak):Prop:=
 ∃v,e=.returned v/\rJ a v q.1/\dL A a t left fb jb lb {J with r:=q.2} w w'
theorem iG.Yb{q:Int×bY}{e:Ending}(h:iG A a t (left+1) fb jb lb J w)(hc:c+(left+1)<=900000000000)(hp:Db A a 1 c fb q w e w'):Eu A a t left fb jb lb J q w e w':=by
 obtain⟨v,d',A',rfl,hn,hp,hI,hA,ht⟩:=hp;exact⟨v,rfl,hn,h.stepped aJ hp hI hA ht⟩
theorem KA(h:iG A a t (left+1) fb jb lb J w)(name data:ah)(hn:name.size<=140737488351232)(hd:data.size<=140737488351232):
  Calls Tryz.prog 49 #[.pointer (some ⟨fb,0,none⟩),.string name,.string data] w (Eu A a t left fb jb lb J (eP J.r name data) w):=by
 obtain⟨c,d,hc,hp,hI⟩:=h.files
 exact(Ld bS h.env hp hI aJ name data hn hd).mono fun e w' hx=>h.Yb hc hx
theorem Te(h:iG A a t (left+1) fb jb lb J w)(name data:ah)(hn:name.size<=140737488351232)(hd:data.size<=140737488351232):
  Calls Tryz.prog 229 #[.pointer (some ⟨fb,0,none⟩),.string name,.string data] w (Eu A a t left fb jb lb J (kQ J.r name data) w):=by
 obtain⟨c,d,hc,hp,hI⟩:=h.files
 exact(TU bS h.env hp hI aJ name data hn hd).mono fun e w' hx=>h.Yb hc hx
theorem Tk(h:iG A a t (left+1) fb jb lb J w)(name data:ah)(hn:name.size<=140737488351232):
  Calls Tryz.prog 174 #[.pointer (some ⟨fb,0,none⟩),.string name,.string data] w (Eu A a t left fb jb lb J (kR J.r name data) w):=by
 obtain⟨c,d,hc,hp,hI⟩:=h.files
 exact(TY bS h.env hp hI aJ name data hn).mono fun e w' hx=>h.Yb hc hx
theorem Cu(h:iG A a t (left+1) fb jb lb J w):
  Calls Tryz.prog 173 #[.pointer (some ⟨fb,0,none⟩)] w (Eu A a t left fb jb lb J (iX J.r) w):=by
 obtain⟨c,d,hc,hp,hI⟩:=h.files
 exact(ZP bS h.env hp hI).mono fun e w' hx=>h.Yb hc hx
def aaD(A:Nat->Nat)(a:Nat->Addr)(t:Nat->ah)(left fb jb lb:Nat)(J:fB)(q:Int×bY×kD)(w:ak)(e:Ending)(w':ak):Prop:=
 ∃v,e=.returned v/\rJ a v q.1/\dL A a t left fb jb lb {J with r:=q.2.1,L:=q.2.2} w w'
def adm(A:Nat->Nat)(a:Nat->Addr)(t:Nat->ah)(left fb jb lb:Nat)(J:fB)(o:Option ah)(w:ak)(e:Ending)(w':ak):Prop:=
 ∃v,e=.returned (.tuple #[.string (o.getD ⟨#[]⟩),v])/\((o.isSome=true/\v=.nilIface)\/(o=none/\v=jW a 1))/\dL A a t left fb jb lb J w w'
theorem Gs(h:iG A a t left fb jb lb J w)(name:ah)(hn:name.size<=140737488351232):
  Calls Tryz.prog 45 #[.pointer (some ⟨fb,0,none⟩),.string name] w (adm A a t left fb jb lb J (dM J.r name) w):=by
 obtain⟨c,d,hc,hp,hI⟩:=h.files;refine(GD bS h.env hp name hn).mono ?_;rintro e w' ⟨v,rfl,jH,hp',ht⟩;rw[Gt] at jH⊢;refine⟨v,rfl,?_,?_⟩
 ·cases hq:dM J.r name with
  |none=>
   rw[hq] at jH
   rcases jH with ⟨_,e⟩|⟨k,hk,rfl,e⟩
   ·exact absurd e bS
   right
   obtain rfl:k=1:=by simp at e;omega
   exact⟨rfl,rfl⟩
  |some x=>
   rw[hq] at jH
   rcases jH with ⟨e,_⟩|⟨k,hk,rfl,e⟩
   ·exact aK ⟨rfl,e⟩
   simp at e
   omega
 obtain⟨ub,m,v1,v2,v3,v4,hj⟩:=h.job;obtain⟨mb,vn,n,hk,hcb,h1,h2⟩:=h.book
 have hkp:∀k,k<w.heap.size->A k≠1->w'.heap[k]?=w.heap[k]?:=fun k hk h1=>ht.block k hk h1
 exact⟨A,⟨h.env.keep ht.size (fun _ _=>rfl) (fun k hk h0=>hkp k hk aJ),h.rounds.keep (fun k hk=>hkp k (aB hk h.env.glob) (by rw[h.env.zero k hk];decide)),⟨c,d,hc,hp',hI⟩,⟨ub,m,v1,v2,v3,v4,hj.keep (fun _ _=>rfl) (fun k hk q=>hkp k hk aJ)⟩,⟨mb,vn,n,hk.keep (fun k q=>hkp k (hk.lt k q) (by rw[hcb k q];decide)),hcb,h1,h2⟩,fun k hk=>h.above k (aC ht.size hk)⟩,fun _ _=>rfl,ht.mono (fun k q=>⟨by rw[q];decide,by rw[q];decide⟩)⟩
theorem iG.size(h:iG A a t left fb jb lb J w)(x:ah):((dM J.r x).getD ⟨#[]⟩).size<=65536:=by
 obtain⟨c,d,_,_,hI⟩:=h.files;unfold dM
 split
 ·exact aS _
 exact aC (pV _ _) hI.total
def PX(bx:Nat):Value:=.func (.func 243) #[] #[.pointer (some ⟨bx,0,none⟩)]
theorem VQ(w:ak)(args:Array Value):(callFunc 243 args).run Tryz.prog w=.ok (.enter 243 args) w:=dD
structure Vu(w:ak)(bx jb ub m:Nat)(un:List ah):Prop where
 box:w.cell? ⟨bx,0,none⟩=some (.pointer (some ⟨jb,0,none⟩))
 cell:w.cell? ⟨jb,2,none⟩=some (.map (some ub))
 map:nG w ub m un
variable {bx:Nat}{un:List ah}
theorem Vu.below(h:Vu w bx jb ub m un)(hb:Below w.heap.size w w'):Vu w' bx jb ub m un:=
 ⟨(hb.cell (p:=⟨bx,0,none⟩) (aG h.box)).trans h.box,(hb.cell (p:=⟨jb,2,none⟩) (aG h.cell)).trans h.cell,eu.keep h.map (hb.block ub (eu.lt h.map))⟩
theorem PW(h:Vu w bx jb ub m un)(x:ah)(hx:x.size<=32):
  Calls Tryz.prog 243 #[.string x,.pointer (some ⟨bx,0,none⟩)] w fun e w'=>e=.returned (.bool (fo x un))/\Below w.heap.size w w':=by
 have c1:=h.box;have c2:=h.cell;have hlk:=eu.look_ok h.map (t:=122) Tryz.underlying122 Pm x (by unfold maxLen;omega)
 have e1:((if fo x un=true then some (Value.agg #[]) else none).getD (.agg #[]))=.agg #[]:=by split<;>rfl
 have e2:(if fo x un=true then some (Value.agg #[]) else none).isSome=fo x un:=by cases fo x un<;>rfl
 rw[e1,e2] at hlk;clear h e1 e2;generalize fo x un=q at*;have HB:Hid (Below w.heap.size w w):=ay _ _
 go_enter Tryz.func243,Tryz.ntmps243
 go_wp2_with fail
 go_ret;exact⟨rfl,by first|exact HB.out.alloc (ai _) _|exact(HB.out.alloc (ai _) _).setCell (ai _) _|exact HB.out⟩
variable {l:List ah}{v:Value}
theorem Kw(h:Vu w bx jb ub m un)(ht:bL w v l)(hl:l.length<=100000)(hx:∀x∈l,x.size<=32):
  Calls Tryz.prog 309 #[v,PX bx] w fun e w'=>∃i:Int,e=.returned (.int .i64 i)/\(decide (0<=i)=l.any fun x=>fo x un)/\Below w.heap.size w w':=by
 obtain⟨ao,cap,rfl,hc,htx⟩:=ht;have HU:=aV h;have HT:=aV htx;have HX:=aV hx;have hen:=VQ;generalize hL:l.length=L at*;have HL:=aV hL
 have l0:(L:Int)<=100000:=aJ
 clear h htx hx hL hc;unfold PX
 go_enter Tryz.func309,Tryz.ntmps309
 go_wp2_with fail
 go_loopw [8] (fun i wr=>∃j:Nat,i=.int .i64 j/\j<=L/\((l.take j).any fun x=>fo x un)=false/\Below w.heap.size w wr) (fun i _=>L-(intOf i).toNat)
 case atStart=>exact⟨0,rfl,aS _,rfl,ay _ _⟩
 case round=>
  obtain⟨j,rfl,hj,hno,hbl⟩:=hrel;have HN:=aV (aO hno hbl)
  have j0:(0:Int)<=(j:Int):=aJ
  by_cases hlt:j<L
  ·have j1:(j:Int)<(L:Int):=aJ
   obtain⟨x,hx⟩:∃x,l[j]?=some x:=⟨l[j]'(by have:=HL.out;omega),eB⟩
   obtain⟨b,o,rfl,hct⟩:∃b o,ao=some ⟨b,o,none⟩/\∀k s,l[k]?=some s->w.cell? ⟨b,o+k,none⟩=some (.string s):=by
    rcases HT.out with ⟨_,q,_⟩|q
    ·exfalso;rw[q] at hx;simp at hx
    exact q
   have cx:wr.cell? ⟨b,o+j,none⟩=some (.string x):=(hbl.cell (p:=⟨b,o+j,none⟩) (aG (hct j x hx))).trans (hct j x hx);have HC:=aV (PW (HU.out.below hbl) x (HX.out x (aU hx)))
   have Ew:Hid (((l.take (j+1)).any fun x=>fo x un)=fo x un):=by
    show _=_;rw[dU,hx,lX,List.any_append,hno]
    simp
   have HYS:Hid (fo x un=true->(l.any fun x=>fo x un)=true):=fun h=>aaV.2 ⟨x,aU hx,h⟩
   clear hno hbl hct hx
   go_wp2_with fail
   refine HC.out.mono ?_;rintro e w2 ⟨rfl,hb2⟩;have HB2:=aV (HN.out.2.trans (hb2.mono HN.out.2.size));clear hb2 HC cx;generalize fo x un=q at*
   rcases q with _|_
   ·go_wp2_with fail
    exact⟨⟨j+1,oW,aJ,Ew.out,HB2.out⟩,by simp[intOf];omega⟩
   go_wp2_with fail
   go_ret;exact⟨_,rfl,by rw[HYS.out (by trivial)];exact bT aJ,HB2.out⟩
  obtain rfl:j=L:=aJ
  have HF:Hid ((l.any fun x=>fo x un)=false):=by have h:=HN.out.1;rw[bK (dG HL.out)] at h;exact h
  clear hno hbl
  go_wp2_with fail
  go_ret;exact⟨_,rfl,by rw[HF.out];rfl,HN.out.2⟩
theorem EK(h:Vu w bx jb ub m un)(ht:bL w v l)(hl:l.length<=100000)(hx:∀x∈l,x.size<=32):
  Calls Tryz.prog 242 #[v,PX bx] w fun e w'=>e=.returned (.bool (l.any fun x=>fo x un))/\Below w.heap.size w w':=by
 have HC:=bB (Kw h ht hl hx);obtain⟨ao,cap,rfl,_,_⟩:=ht;clear h hx;unfold PX at*
 go_enter Tryz.func242,Tryz.ntmps242
 go_wp2_with fail
 refine HC.out.mono ?_;rintro e w2 ⟨i,rfl,hi,hb2⟩;have HI:=aV (aO hi hb2);clear hi hb2 HC
 go_wp2_with fail
 go_ret;exact⟨by rw[<-HI.out.1];rfl,HI.out.2⟩
variable {vo vi vm vr:Value}
theorem Nh{r c:ah}(hc:w.cell? ⟨jb,2,none⟩=some (.map (some ub)))(hu:nG w ub m un)(e:dA)(tv:∃ao n c,vo=.slice ao n c)(ti:bL w vi e.ins)(tm:bL w vm e.impl)(tr:bL w vr e.ord)(hi:e.ins.length<=10000)(hm:e.impl.length<=10000)(hr:e.ord.length<=10000)(hx:∀x∈eO e,x.size<=32):
  Calls Tryz.prog 163 #[.pointer (some ⟨jb,0,none⟩),.agg #[vo,vi,vm,vr,.string r,.string c]] w fun e' w'=>e'=.returned (.bool ((eO e).any fun x=>fo x un))/\Below w.heap.size w w':=by
 obtain⟨W1,hW1⟩:∃W1,W1=(w.alloc (.cells #[.pointer (some ⟨jb,0,none⟩)] 121)).alloc (.cells #[vo,vi,vm,vr,.string r,.string c] 63):=⟨_,rfl⟩;have hsz:(w.alloc (.cells #[.pointer (some ⟨jb,0,none⟩)] 121)).heap.size=w.heap.size+1:=bO _ _
 have hB1:Below w.heap.size w W1:=by rw[hW1];exact((ay _ _).alloc (ai _) _).alloc aJ _
 have Bc:=bB (wN (w:=W1) (vo:=vo) (r:=r) (c:=c) e tv (ti.iy hB1) (tm.iy hB1) (tr.iy hB1) hi hm hr);have HU1:Hid (Vu W1 w.heap.size jb ub m un):=⟨by rw[hW1];exact(aF (a:=⟨w.heap.size,0,none⟩) (bC _ _ w.heap.size aJ)).trans (jy _ _ _ _ _ rfl),(hB1.cell (p:=⟨jb,2,none⟩) (aG hc)).trans hc,eu.keep hu (hB1.block ub (eu.lt hu))⟩;have HB1:=aV hB1;have HDX:Hid ((∀x∈eO e,x.size<=32)/\(eO e).length<=100000):=⟨hx,by unfold eO;rw[aI,aI];omega⟩;have HW1:=aV hW1;obtain⟨nu,nO,cO,rfl⟩:=tv;obtain⟨kE,cI,rfl,_,_⟩:=ti;obtain⟨lM,cM,rfl,_,_⟩:=tm;obtain⟨nH,cR,rfl,_,_⟩:=tr
 have ca:∀i u,(#[.slice nu nO cO,.slice kE e.ins.length cI,.slice lM e.impl.length cM,.slice nH e.ord.length cR,.string r,.string c]:Array Value)[i]?=some u->((w.alloc (.cells #[.pointer (some ⟨jb,0,none⟩)] 121)).alloc (.cells #[.slice nu nO cO,.slice kE e.ins.length cI,.slice lM e.impl.length cM,.slice nH e.ord.length cR,.string r,.string c] 63)).cell? ⟨w.heap.size+1,i,none⟩=some u:=fun i u hu=>by rw[aj _ _ _ _ _ _ (bq _ _ _ hsz.symm)];exact hu
 have a0:=ca 0 _ rfl;have a1:=ca 1 _ rfl;have a2:=ca 2 _ rfl;have a3:=ca 3 _ rfl;have a4:=ca 4 _ rfl;have a5:=ca 5 _ rfl;clear ca hW1 hB1 hx hi hm hr hc hu
 go_enter Tryz.func163,Tryz.ntmps163
 go_wp2_with fail
 rw[<-HW1.out];refine Bc.out.mono ?_;rintro e2 w2 ⟨v,rfl,hrow,hb2⟩;have HV:Hid (bL w2 v (eO e)/\Below W1.heap.size W1 w2):=⟨mZ hrow,hb2⟩;obtain⟨af,Ao,rfl,_,_⟩:=bE hrow;clear hrow hb2 Bc a0 a1 a2 a3 a4 a5
 go_wp2_with fail
 refine(EK (HU1.out.below HV.out.2) HV.out.1 HDX.out.2 HDX.out.1).mono ?_;rintro e3 w3 ⟨rfl,hb3⟩;have HB3:=aV (HB1.out.trans ((HV.out.2.trans (hb3.mono HV.out.2.size)).mono HB1.out.size));clear hb3;generalize hq:((eO e).any fun x=>fo x un)=q;have HQ:=bB hq;clear hq
 go_wp2_with fail
 go_ret;exact⟨by rw[HQ.out];rfl,HB3.out⟩
theorem Zb(a c:Array Value)(x:Value)(h:a.size=32)(hc:c.size=33)(h0:c[0]?=some x):Array.foldl (fun cs (y:Value×Nat)=>cs.setIfInBounds (1+y.2) y.1) c a.zipIdx 0 32=(x::a.toList).toArray:=by
 have e:=Cs 1 a c aJ
 have hz:a.zipIdx.size=32:=by rw[FK];exact h
 rw[hz] at e;refine e.trans ?_
 have e1:c.toList.take 1=[x]:=by
  rw[List.take_one,List.head?_eq_getElem?,cZ,h0];rfl
 rw[e1,kV (by rw[aX];omega),fM];rfl
theorem WV(s:Sha.St):kK s.byte=(Lib.strCells (AB s.byte)).toArray:=by
 apply fJ.1
 have e1:(kK s.byte).toList=(List.range 32).map fun i=>Value.int .u8 (s.byte i):=rfl
 have e2:(Lib.strCells (AB s.byte)).toArray.toList=((List.range 32).map fun j=>UInt8.ofNat (s.byte j)).map fun b=>Value.int .u8 b.toNat:=rfl
 rw[e1,e2,List.map_map]
 refine qX fun i _=>?_
 show Value.int .u8 _=Value.int .u8 _;rw[Vt,aaX (show s.byte i<256 from kY _ bS)]
theorem CG(t:ah)(ht:t.size<140737488355328)(w:ak)(hR:jC w):
  Calls Tryz.prog 124 #[.string t] w fun e w'=>e=.returned (.agg (Lib.strCells (gW t)).toArray)/\Below w.heap.size w w':=by
 refine(WT Ib t ht w hR KJ).mono ?_;rintro e w' ⟨s,hs,rfl,hb⟩;exact⟨by rw[WV,hs.out];rfl,hb⟩
theorem Dk{r c:ah}(e:dA)(tv:∃ao n c,vo=.slice ao n c)(tr:∃ao n c,vr=.slice ao n c)(ti:bL w vi e.ins)(tm:bL w vm e.impl)(hi:e.ins.length<=10000)(hm:e.impl.length<=10000):
  Calls Tryz.prog 244 #[.agg #[vo,vi,vm,vr,.string r,.string c]] w fun e' w'=>∃v,e'=.returned v/\w'.ownsRow w.heap.size 9 1 v (fU e).length ((fU e).map Value.string)/\Below w.heap.size w w':=by
 obtain⟨nu,nO,cO,rfl⟩:=tv;obtain⟨nH,nR,cR,rfl⟩:=tr
 obtain⟨kE,nI,cI,MB⟩:∃ao n c,vi=.slice ao n c:=by obtain⟨ao,cap,e,_⟩:=ti;exact⟨ao,_,cap,e⟩
 obtain⟨lM,nM,cM,Wl⟩:∃ao n c,vm=.slice ao n c:=by obtain⟨ao,cap,e,_⟩:=tm;exact⟨ao,_,cap,e⟩
 subst MB Wl;obtain⟨W1,hW1⟩:∃W1,W1=w.alloc (.cells #[.slice nu nO cO,.slice kE nI cI,.slice lM nM cM,.slice nH nR cR,.string r,.string c] 63):=⟨_,rfl⟩
 have hb1:Below w.heap.size w W1:=by rw[hW1];exact(ay _ _).alloc (ai _) _
 obtain⟨W2,hW2⟩:∃W2,W2=W1.alloc (.cells #[.slice kE nI cI,.slice lM nM cM] 32):=⟨_,rfl⟩
 have hb2:Below w.heap.size w W2:=by rw[hW2];exact hb1.alloc hb1.size _
 have hrow:W2.heap[W1.heap.size]?=some (.cells #[.slice kE nI cI,.slice lM nM cM] 32 (0,0)):=by rw[hW2];exact bq _ _ _ rfl
 have hC:=DU [(.slice kE nI cI,e.ins),(.slice lM nM cM,e.impl)] W1.heap.size W2 (fun i x hx=>by
  match i,hx with
  |0,hx=>obtain rfl:=ax hx;exact⟨by rw[aj _ _ _ _ _ _ hrow];rfl,ti.iy hb2⟩
  |1,hx=>obtain rfl:=ax hx;exact⟨by rw[aj _ _ _ _ _ _ hrow];rfl,tm.iy hb2⟩
  |i+2,hx=>cases hx) (show 2<=10 by decide) (fun x hx=>by
  rcases bg.1 hx with rfl|hx
  ·exact hi
  obtain rfl:=bD.1 hx
  exact hm)
 have hfl:oL [(.slice kE nI cI,e.ins),(.slice lM nM cM,e.impl)]=fU e:=by simp[oL,fU]
 rw[hfl] at hC;have HC:=aV hC;have HB2:=aV hb2
 have HW:Hid (W2=(w.alloc (.cells #[.slice nu nO cO,.slice kE nI cI,.slice lM nM cM,.slice nH nR cR,.string r,.string c] 63)).alloc (.cells #[.slice kE nI cI,.slice lM nM cM] 32)):=by rw[hW2,hW1];rfl
 have HZ:Hid (W1.heap.size=w.heap.size+1):=by rw[hW1];exact bO _ _
 rw[HZ.out] at HC;clear hW1 hW2 hb1 hb2 hrow ti tm hi hm hfl hC
 go_enter Tryz.func244,Tryz.ntmps244
 go_wp2_with fail
 rw[<-HW.out];refine HC.out.mono ?_;rintro e1 w3 ⟨v,rfl,hv3,hb3⟩;have HF:Hid (w3.ownsRow w.heap.size 9 1 v (fU e).length ((fU e).map Value.string)/\Below w.heap.size w w3):=⟨wu hv3 HB2.out.size,HB2.out.trans (hb3.mono HB2.out.size)⟩;clear hv3 hb3 HC
 go_wp2
 go_ret;exact⟨_,rfl,HF.out⟩
variable {x:ah}
theorem Tg{d:ah}(hd:dM r x=some d):(fun y=>if y=x then some (Value.agg (oZ d).toArray) else wP (iB r l) y)=wP (iB r (l++[x])):=by
 funext y
 unfold wP iB
 have hm:fo y (l++[x])=(fo y l||decide (x=y)):=by unfold fo;simp
 rw[hm]
 by_cases q:y=x
 ·subst q;rw[aH rfl,bT rfl,Bool.or_true,aH rfl,hd];rfl
 rw[aA q,bM (fun e=>q e.symm),Vd]
theorem Tf(h:fo x l=true):iB r (l++[x])=iB r l:=by
 funext y
 unfold iB
 have hm:fo y (l++[x])=(fo y l||decide (x=y)):=by unfold fo;simp
 rw[hm]
 by_cases q:x=y
 ·subst q;rw[h];rfl
 rw[bM q,Vd]
theorem Ia(h:jI r l=true)(x:ah):(iB r l x).isSome=fo x l:=by
 unfold iB
 by_cases q:fo x l=true
 ·rw[aH q,q];exact vQ.1 h x (mY.1 q)
 rw[aA q];rw[Bool.not_eq_true] at q;rw[q];rfl
def afC(A:Nat->Nat)(a:Nat->Addr)(t:Nat->ah)(left fb jb lb:Nat)(J:fB)(l:List ah)(w:ak)(e:Ending)(w':ak):Prop:=
 ∃A' v,e=.returned (.tuple #[v,.bool (jI J.r l)])/\iG A' a t left fb jb lb J w'/\(∀k,k<w.heap.size->A' k=A k)/\aW (JF A) w w'/\
  ((jI J.r l=false/\v=.map none)\/(jI J.r l=true/\∃mb n,v=.map (some mb)/\MI w' mb n (iB J.r l)/\A' mb=9/\mb<w'.heap.size))
structure tL(A:Nat->Nat)(a:Nat->Addr)(t:Nat->ah)(left fb jb lb:Nat)(J:fB)(l:List ah)(w:ak)(gF mb n j:Nat)(A':Nat->Nat)(wr:ak):Prop where
 site:iG A' a t left fb jb lb J wr
 hA:∀k,k<w.heap.size->A' k=A k
 turns:aW (JF A) w wr
 cells:∀k s,l[k]?=some s->wr.cell? ⟨gF,k,none⟩=some (.string s)
 zero:(0<l.length->A' gF=0)/\A' mb=9
 map:MI wr mb n (iB J.r (l.take j))
 there:jI J.r (l.take j)=true
 le:n<=j
 new:w.heap.size<=mb
variable {gF mb n j:Nat}{wr:ak}
theorem tL.below(h:tL A a t left fb jb lb J l w gF mb n j A' wr)(hb:Below wr.heap.size wr w'):tL A a t left fb jb lb J l w gF mb n j A' w':=
 ⟨h.site.below hb,h.hA,h.turns.trans (aW.of_below (JF A) hb) (fun _ hk=>aK hk),fun k s hs=>(hb.cell (p:=⟨gF,k,none⟩) (aG (h.cells k s hs))).trans (h.cells k s hs),h.zero,eu.keep h.map (hb.block mb (eu.lt h.map)),h.there,h.le,h.new⟩
theorem tL.stored(h:tL A a t left fb jb lb J l w gF mb n j A' wr)(hx:l.take (j+1)=l.take j++[x])(hs:(dM J.r x).isSome=true)(hm:MI w' mb (n+1) (iB J.r (l.take (j+1))))(hg:wr.grownBy w' (some mb)):tL A a t left fb jb lb J l w gF mb (n+1) (j+1) A' w':=by
 have SV:=eu.lt h.map
 have hkp:∀k,k<wr.heap.size->A' k≠9->w'.heap[k]?=wr.heap[k]?:=fun k hk hn=>hg.block k hk (fun e=>hn (by rw[ax e];exact h.zero.2))
 have hT:aW (JF A) w w':=by
  refine h.turns.trans (aW.TN hg) (fun k hk=>aP ?_);rw[<-ax hk];exact h.new
 refine⟨h.site.keep hg.size (fun _ _=>rfl) (fun k hk h8=>hkp k hk aJ) (fun k hk=>h.site.above k (aC hg.size hk)),h.hA,hT,fun k s hs=>(aF (w:=wr) (a:=⟨gF,k,none⟩) (hkp gF (aG (h.cells k s hs)) (by rw[h.zero.1 (by have:=(aN.1 hs).1;omega)];decide))).trans (h.cells k s hs),h.zero,hm,?_,by have:=h.le;omega,h.new⟩;rw[hx];have h2:=h.there;unfold jI at h2⊢;rw[Mv,h2,Be,hs];rfl
theorem tL.after(h:tL A a t left fb jb lb J l w gF mb n j A' wr)(he:dL A' a t left fb jb lb J wr w'):∃A2,tL A a t left fb jb lb J l w gF mb n j A2 w':=by
 obtain⟨A2,h1,h2,h3⟩:=he;have SV:=eu.lt h.map
 have hz:∀k,k<wr.heap.size->A' k=0->w'.heap[k]?=wr.heap[k]?:=fun k hk h0=>h3.block k hk (fun q=>by unfold JF at q;omega)
 exact⟨A2,h1,fun k hk=>(h2 k (aB hk h.turns.size)).trans (h.hA k hk),ji h.hA h.turns h3,fun k s hs=>(aF (w:=wr) (a:=⟨gF,k,none⟩) (hz gF (aG (h.cells k s hs)) (h.zero.1 (by have:=(aN.1 hs).1;omega)))).trans (h.cells k s hs),⟨fun hl=>by
  obtain⟨s,hs⟩:∃s,l[0]?=some s:=⟨l[0]'hl,eB⟩
  rw[h2 gF (aG (h.cells 0 s hs))];exact h.zero.1 hl,by rw[h2 mb SV];exact h.zero.2⟩,eu.keep h.map (h3.block mb SV (fun q=>by have:=h.zero.2;unfold JF at q;omega)),h.there,h.le,h.new⟩
variable {rl cm:ah}
theorem Lx(h:iG A a t left fb jb lb J w)(e:dA)(tv:∃ao n c,vo=.slice ao n c)(tr:∃ao n c,vr=.slice ao n c)(ti:bL w vi e.ins)(tm:bL w vm e.impl)(hi:e.ins.length<=10000)(hm:e.impl.length<=10000)(hx:∀x∈eO e,x.size<=32):
  Calls Tryz.prog 164 #[.pointer (some ⟨jb,0,none⟩),.agg #[vo,vi,vm,vr,.string rl,.string cm]] w (afC A a t left fb jb lb J (fU e) w):=by
 obtain⟨W1,hW1⟩:∃W1,W1=(w.alloc (.cells #[vo,vi,vm,vr,.string rl,.string cm] 63)).alloc (.map #[] 0):=⟨_,rfl⟩;have hsz:(w.alloc (.cells #[vo,vi,vm,vr,.string rl,.string cm] 63)).heap.size=w.heap.size+1:=bO _ _
 have hB1:Below w.heap.size w W1:=by rw[hW1];exact((ay _ _).alloc (ai _) _).alloc aJ _
 have HM1:Hid (MI W1 (w.heap.size+1) 0 (iB J.r [])):=by
  have h1:=eu.made GJ (.agg lm) Un (w.alloc (.cells #[vo,vi,vm,vr,.string rl,.string cm] 63));rw[hsz,<-hW1] at h1;exact h1
 have HFR:=bB (Dk (w:=W1) (r:=rl) (c:=cm) e tv tr (ti.iy hB1) (tm.iy hB1) hi hm);have HS:=bB h;have HB1:=bB hB1;have Yx:Hid ((∀x∈fU e,x.size<=32)/\(fU e).length<=20000):=⟨fun x hq=>hx x (by unfold fU at hq;unfold eO;rw[<-eZ];exact fD _ hq),by unfold fU;rw[aI];omega⟩;have HW1:=bB hW1;obtain⟨nu,nO,cO,rfl⟩:=tv;obtain⟨nH,nR,cR,rfl⟩:=tr;obtain⟨kE,cI,rfl,_,_⟩:=ti;obtain⟨lM,cM,rfl,_,_⟩:=tm
 have ca:∀i u,(#[.slice nu nO cO,.slice kE e.ins.length cI,.slice lM e.impl.length cM,.slice nH nR cR,.string rl,.string cm]:Array Value)[i]?=some u->W1.cell? ⟨w.heap.size,i,none⟩=some u:=fun i u hu=>by
  rw[hW1];refine(aF (a:=⟨w.heap.size,i,none⟩) (bC _ _ w.heap.size aJ)).trans ?_;rw[aj _ _ _ _ _ _ (bq _ _ _ rfl)];exact hu
 have a0:=ca 0 _ rfl;have a1:=ca 1 _ rfl;have a2:=ca 2 _ rfl;have a3:=ca 3 _ rfl;have a4:=ca 4 _ rfl;have a5:=ca 5 _ rfl
 have hmk:(Instr.makeMap 258 none).run Tryz.prog (w.alloc (.cells #[.slice nu nO cO,.slice kE e.ins.length cI,.slice lM e.impl.length cM,.slice nH nR cR,.string rl,.string cm] 63))=.ok (.map (some (w.heap.size+1))) W1:=by
  rw[hW1,<-hsz]
  simp[Instr.makeMap,go_sem]
 clear ca hW1 hB1 hx hi hm h
 go_enter Tryz.func164,Tryz.ntmps164
 go_wp2_with fail
 refine HFR.out.mono ?_;rintro e2 w2 ⟨v,rfl,hrow,hb2⟩;obtain⟨af,Ao,hvf,_,hgf⟩:=bE hrow
 obtain⟨gF,hgF⟩:∃gF,0<(fU e).length->af=some ⟨gF,0,none⟩:=by
  by_cases q:0<(fU e).length
  ·obtain⟨g,hg⟩:=hgf q;exact⟨g,fun _=>hg⟩
  exact⟨0,fun h=>absurd h q⟩
 have aht:Hid (tL A a t left fb jb lb J (fU e) w gF (w.heap.size+1) 0 0 (fun k=>if k=w.heap.size+1 then 9 else A k) w2):=by
  have hb:=HB1.out.trans (hb2.mono HB1.out.size);refine⟨HS.out.keep hb.size (fun k hk=>aA aJ) (fun k hk _=>hb.block k hk) (fun k hk=>(aA (by have:=eu.lt HM1.out;have:=hb2.size;omega)).trans (HS.out.above k (aC hb.size hk))),fun k hk=>aA aJ,aW.of_below _ hb,fun k s hs=>?_,⟨fun hl=>?_,aH rfl⟩,eu.keep HM1.out (hb2.block _ (eu.lt HM1.out)),rfl,ai _,fH _⟩
  ·have hl:0<(fU e).length:=by have:=(aN.1 hs).1;omega
   rw[hvf,hgF hl] at hrow;exact(dV hrow k _ (by rw[dS,hs];rfl)).1
  rw[hvf,hgF hl] at hrow;have h1:=(bF hrow gF rfl).1;exact(aA (by have:=eu.lt HM1.out;omega)).trans (HS.out.above _ (aC HB1.out.size h1))
 have HGF:=bB hgF;subst hvf;generalize hL:(fU e).length=L at*;have HL:=bB hL
 have l0:(L:Int)<=20000:=by have:=Yx.out.2;omega
 generalize w.heap.size+1=mb at*;clear hrow hb2 HFR a0 a1 a2 a3 a4 a5 hgf hgF hmk hL HM1
 go_wp2_with fail
 go_loopw [17] (fun i wr=>∃(j n:Nat) (A':Nat->Nat),i=.int .i64 j/\j<=L/\tL A a t left fb jb lb J (fU e) w gF mb n j A' wr) (fun i _=>L-(intOf i).toNat)
 case atStart=>exact⟨0,0,_,rfl,aS _,aht.out⟩
 case round=>
  clear aht;obtain⟨j,n,A',rfl,hj,hmid⟩:=hrel;have HM:=bB hmid
  have j0:(0:Int)<=(j:Int):=aJ
  by_cases hlt:j<L
  ·have j1:(j:Int)<(L:Int):=aJ
   obtain⟨x,hx⟩:∃x,(fU e)[j]?=some x:=⟨(fU e)[j]'(by have:=HL.out;omega),eB⟩;obtain rfl:=HGF.out aJ;have cx:=hmid.cells j x hx;have hxs:=Yx.out.1 x (aU hx);have hlk:=eu.look_ok hmid.map (t:=258) Tryz.underlying258 Er x (by unfold maxLen;omega);obtain⟨Y,hY,hYl,hYo,_⟩:=EY (iB J.r ((fU e).take j)) x
   have hkn:(wP (iB J.r ((fU e).take j)) x).isSome=fo x ((fU e).take j):=by unfold wP;rw[YA,Ia hmid.there]
   rw[hY,hkn] at hlk
   have HI:Hid ((Tryz.prog.info? 265).map (·.size)=some 33):=by unfold Hid;kernel_rfl
   have HC:Hid ((Value.string ((iB J.r ((fU e).take j) x).getD ⟨#[]⟩)::Y).toArray.size=33/\(Value.string ((iB J.r ((fU e).take j) x).getD ⟨#[]⟩)::Y).toArray.all (·.oneCell')=true):=⟨by rw[bZ,aY,hYl],eH (fun u hu=>by
    rcases bg.1 hu with rfl|hu
    ·rfl
    exact hYo u hu)⟩
   have HXI:=bB (aU hx);have Bu:Hid ((fU e).take (j+1)=(fU e).take j++[x]/\x.size<=32):=⟨by rw[dU,hx];rfl,hxs⟩;clear hY hYl hYo hkn hxs hx hmid;generalize (Value.string ((iB J.r ((fU e).take j) x).getD ⟨#[]⟩)::Y).toArray=C at*;generalize hkk:fo x ((fU e).take j)=kn at*;have HKK:=bB hkk
   go_wp2_with (first
    | (refine cK (w:=wr.alloc (.cells lm 265)) rfl 265 (.tmp 9) (.tmp 25) rfl wr.heap.size 0 C rfl rfl (bR (bq _ _ _ rfl) 0 _ (by rw[HC.out.1];decide)) (by rw[HC.out.1];exact HI.out) HC.out.2 ?_;refine dO ?_)
    |fail)
   have HM2:Hid (tL A a t left fb jb lb J (fU e) w gF mb n j A' ((wr.alloc (.cells lm 265)).setCells wr.heap.size 0 C.toList)):=HM.out.below (jo _ _ ((ay _ _).alloc (ai _) _) (ai _));clear HM hlk cx hkk;generalize (wr.alloc (.cells lm 265)).setCells wr.heap.size 0 C.toList=w3 at*
   rcases kn with _|_
   ·obtain⟨ub,m,v1,v2,v3,v4,eD⟩:=HM2.out.site.job
    have c0:w3.cell? ⟨jb,0,none⟩=some (.pointer (some ⟨fb,0,none⟩)):=by rw[aj _ _ _ _ _ _ eD.row];rfl
    have hd2:((dM J.r x).getD ⟨#[]⟩).size<=65536:=HM2.out.site.size x;have CQ:=bB (Gs HM2.out.site x (by have:=Bu.out.2;omega));clear eD;unfold Hid
    go_wp2_with fail
    refine CQ.out.mono ?_;rintro e3 w4 ⟨ve,rfl,hve,hse⟩;obtain⟨A4,hm4⟩:=HM2.out.after hse;have ru:=bB hm4;clear hse hm4 c0 CQ HM2
    rcases hve with ⟨hso,rfl⟩|⟨hno,rfl⟩
    ·obtain⟨d,hd⟩:=fQ.1 hso;rw[hd] at hd2;have hd2:d.size<=65536:=hd2;have HD:=aV (aO hd hd2);have HSM:=bB (CG d aJ w4 ru.out.site.rounds);have HSS:Hid ((Lib.strCells (gW d)).toArray.size=32/\(Lib.strCells (gW d)).toArray.toList=Lib.strCells (gW d)):=⟨by rw[bZ,Lib.strCells_length,kS],rfl⟩;rw[hd];simp only[dm];clear hd hd2 hso;generalize (Lib.strCells (gW d)).toArray=SM at*
     go_wp2_with fail
     refine HSM.out.mono ?_;rintro e5 w5 ⟨rfl,hb5⟩;have Ac:=bB (ru.out.below hb5);have hss:=HSS.out.1;clear hb5 HSM ru
     go_wp2_with (first
      | (rw[Zb SM _ (.string d) HSS.out.1];rotate_left;rfl;rfl;refine dO ?_)
      |fail)
     have HST:Hid (∃w9,(Instr.mapUpdate 258 (.map (some mb)) (.string x) (.agg (Value.string d::SM.toList).toArray)).run Tryz.prog w5=.ok () w9/\tL A a t left fb jb lb J (fU e) w gF mb (n+1) (j+1) A4 w9):=by
      rw[HSS.out.2];have hm:=Ac.out;obtain⟨w9,h1,h2,h3⟩:=eu.store hm.map (t:=258) Tryz.underlying258 (by have:=hm.le;unfold maxLen;omega) x (by have:=Bu.out.2;unfold maxLen;omega) (.agg (oZ d).toArray) (Xf d);rw[Tg HD.out.1,<-Bu.out.1] at h2;exact⟨w9,h1,hm.stored Bu.out.1 (by rw[HD.out.1];rfl) h2 h3⟩
     obtain⟨w9,hst,hm9⟩:=HST.out;have XB:=bB hm9;clear hm9 HST Ac hss;unfold Hid
     go_wp2_with fail
     exact⟨⟨j+1,n+1,A4,oW,aJ,XB.out⟩,by simp[intOf];omega⟩
    have uT:Hid (jI J.r (fU e)=false):=by
     unfold Hid jI;rw[Yy];exact⟨x,HXI.out,by rw[hno];exact fu⟩
    rw[hno];simp only[jG];clear hno hd2;unfold jW
    go_wp2_with fail
    go_ret2;exact⟨A4,.map none,by rw[uT.out];rfl,ru.out.site,ru.out.hA,ru.out.turns,aK ⟨uT.out,rfl⟩⟩
   have HM3:Hid (tL A a t left fb jb lb J (fU e) w gF mb n (j+1) A' w3):=by
    have h:=HM2.out;refine⟨h.site,h.hA,h.turns,h.cells,h.zero,?_,?_,by have:=h.le;omega,h.new⟩
    ·rw[Bu.out.1,Tf HKK.out];exact h.map
    rw[Bu.out.1];unfold jI;rw[Mv];have h1:=vQ.1 h.there x (mY.1 HKK.out);have h2:=h.there;unfold jI at h2;rw[h2,Be,h1];rfl
   clear HM2;unfold Hid
   go_wp2_with fail
   exact⟨⟨j+1,n,A',oW,aJ,HM3.out⟩,by simp[intOf];omega⟩
  obtain rfl:j=L:=aJ
  have HF:Hid (jI J.r (fU e)=true/\MI wr mb n (iB J.r (fU e))):=by
   have h1:=HM.out.there;have h2:=HM.out.map;rw[bK (dG HL.out)] at h1 h2;exact⟨h1,h2⟩
  clear hmid
  go_wp2_with fail
  go_ret2;exact⟨A',.map (some mb),by rw[HF.out.1];rfl,HM.out.site,HM.out.hA,HM.out.turns,aP ⟨HF.out.1,mb,n,rfl,HF.out.2,HM.out.zero.2,eu.lt HF.out.2⟩⟩
def uf(A:Nat->Nat)(w:ak)(v:Value)(l:List ah):Prop:=bL w v l/\(l≠[]->∀b,v.ownBlock=some b->A b=0)
theorem uf.turns(h:uf A w v l)(ht:aW (JF A) w w'):bL w' v l:=by
 obtain⟨⟨ao,cap,rfl,hc,h1|⟨b,o,rfl,h1⟩⟩,hz⟩:=h
 ·exact⟨ao,cap,rfl,hc,aK h1⟩
 refine⟨_,cap,rfl,hc,aP ⟨b,o,rfl,fun k s hs=>?_⟩⟩;refine(aF (w:=w) (a:=⟨b,o+k,none⟩) (ht.block b (aG (h1 k s hs)) (fun q=>?_))).trans (h1 k s hs);have h0:=hz (fun e=>by rw[e] at hs;simp at hs) b rfl;unfold JF at q;omega
theorem bL.lt(h:bL w v l)(hl:l≠[])(b:Nat)(hb:v.ownBlock=some b):b<w.heap.size:=by
 obtain⟨ao,cap,rfl,_,h1|⟨g,o,rfl,h1⟩⟩:=h
 ·exact absurd h1.2.1 hl
 obtain⟨x,hx⟩:∃x,l[0]?=some x:=⟨l[0]'(gD.2 hl),eB⟩;rw[<-ax hb];exact aG (h1 0 x hx)
theorem uf.later(h:uf A w v l)(hA:∀k,k<w.heap.size->A' k=A k)(ht:aW (JF A) w w'):uf A' w' v l:=⟨h.turns ht,fun hl b hb=>(hA b (h.1.lt hl b hb)).trans (h.2 hl b hb)⟩
theorem PU(h:iG A a t left fb jb lb J w)(ht:uf A w v l)(hl:l.length<=100000)(hx:∀x∈l,x.size<=32):
  Calls Tryz.prog 165 #[.pointer (some ⟨jb,0,none⟩),v] w fun e w'=>e=.returned (.bool (jI J.r l))/\dL A a t left fb jb lb J w w':=by
 have HT:=bB ht;have HS:=bB h;have HX:=bB hx;obtain⟨⟨ao,cap,rfl,_,_⟩,_⟩:=ht;generalize hL:l.length=L at*;have HL:=bB hL
 have l0:(L:Int)<=100000:=aJ
 clear h hx hL
 go_enter Tryz.func165,Tryz.ntmps165
 go_wp2_with fail
 go_loopw [11] (fun i wr=>∃(j:Nat) (A':Nat->Nat),i=.int .i64 j/\j<=L/\jI J.r (l.take j)=true/\iG A' a t left fb jb lb J wr/\(∀k,k<w.heap.size->A' k=A k)/\aW (JF A) w wr) (fun i _=>L-(intOf i).toNat)
 case atStart=>exact⟨0,A,rfl,aS _,rfl,HS.out,fun _ _=>rfl,aW.refl _ _⟩
 case round=>
  obtain⟨j,A',rfl,hj,hth,hs,hA,htu⟩:=hrel;have HM:=aV (aO hth (aO hs (aO hA htu)))
  have j0:(0:Int)<=(j:Int):=aJ
  by_cases hlt:j<L
  ·have j1:(j:Int)<(L:Int):=aJ
   obtain⟨x,hx⟩:∃x,l[j]?=some x:=⟨l[j]'(by have:=HL.out;omega),eB⟩;obtain⟨Bo,cap',e5,_,h6⟩:=HT.out.turns htu;injection e5 with f1 f2 f3
   rcases h6 with ⟨_,q,_⟩|⟨b,o,q,hct⟩
   ·exfalso;rw[q] at hx;simp at hx
   rw[q] at f1;subst f1;have cx:=hct j x hx;obtain⟨ub,m,v1,v2,v3,v4,eD⟩:=hs.job
   have c0:wr.cell? ⟨jb,0,none⟩=some (.pointer (some ⟨fb,0,none⟩)):=by rw[aj _ _ _ _ _ _ eD.row];rfl
   have CQ:=bB (Gs hs x (by have:=HX.out x (aU hx);omega));have Bu:Hid (l.take (j+1)=l.take j++[x]/\x∈l):=⟨by rw[dU,hx];rfl,aU hx⟩;clear eD hct hx hth hs hA htu f2 f3
   go_wp2_with fail
   refine CQ.out.mono ?_;rintro e3 w4 ⟨ve,rfl,hve,A4,hs4,hA4,ht4⟩;have ru:Hid (iG A4 a t left fb jb lb J w4/\(∀k,k<w.heap.size->A4 k=A k)/\aW (JF A) w w4):=⟨hs4,fun k hk=>(hA4 k (aB hk HM.out.2.2.2.size)).trans (HM.out.2.2.1 k hk),ji HM.out.2.2.1 HM.out.2.2.2 ht4⟩;clear hs4 hA4 ht4 c0 CQ cx
   rcases hve with ⟨hso,rfl⟩|⟨hno,rfl⟩
   ·have HTH:Hid (jI J.r (l.take (j+1))=true):=by
     have h2:=HM.out.1;show jI _ _=true;unfold jI at h2⊢;rw[Bu.out.1,Mv,h2,Be,hso];rfl
    clear hso;generalize (dM J.r x).getD ⟨#[]⟩=d at*
    go_wp2_with fail
    exact⟨⟨j+1,A4,oW,aJ,HTH.out,ru.out⟩,by simp[intOf];omega⟩
   have uT:Hid (jI J.r l=false):=by
    unfold Hid jI;rw[Yy];exact⟨x,Bu.out.2,by rw[hno];exact fu⟩
   clear hno;generalize (dM J.r x).getD ⟨#[]⟩=d at*;unfold jW
   go_wp2_with fail
   go_ret;exact⟨by rw[uT.out];rfl,A4,ru.out⟩
  obtain rfl:j=L:=aJ
  have HF:Hid (jI J.r l=true):=by have h1:=HM.out.1;rw[bK (dG HL.out)] at h1;exact h1
  clear hth hs hA htu
  go_wp2_with fail
  go_ret;exact⟨by rw[HF.out];rfl,A',HM.out.2⟩
theorem Am{b:Nat}{t:ah}{k:Nat}{cs:Array Value}(h:dW w b t)(hk:w.heap[k]?=some (.cells cs 9 (0,0))):k≠b:=by
 intro e;subst e
 rcases h with ⟨_,v,hb,_⟩|⟨_,v,hb,_⟩<;>
 ·rw[hk] at hb;injection ax hb with _ e _;exact absurd e bS
def oG:Array Value:=#[.int .u8 0,.int .u8 0,.int .u8 0,.int .u8 0,.int .u8 0,.int .u8 0,.int .u8 0,.int .u8 0,.int .u8 0,.int .u8 0,.int .u8 0,.int .u8 0,.int .u8 0,.int .u8 0,.int .u8 0,.int .u8 0,.int .u8 0,.int .u8 0,.int .u8 0,.int .u8 0,.int .u8 0,.int .u8 0,.int .u8 0,.int .u8 0,.int .u8 0,.int .u8 0,.int .u8 0,.int .u8 0,.int .u8 0,.int .u8 0,.int .u8 0,.int .u8 0]
theorem Du(f:ah->Option ah):∀(l:List ah) (t:ah),(∀x∈l,x.size<=32)->(oz f l t).size<=t.size+l.length*65
 |[],t,_=>by show t.size<=t.size+0;omega
 |x::l,t,h=>by
  have h1:=Du f l (t++x++⟨#[0]⟩++gW ((f x).getD ⟨#[]⟩)) (fun y hy=>h y (aZ _ hy));have h2:=h x (aQ ..)
  have h3:(t++x++⟨#[0]⟩++gW ((f x).getD ⟨#[]⟩)).size=t.size+x.size+1+32:=by
   rw[aL,aL,aL,kS];rfl
  show(oz f l (t++x++⟨#[0]⟩++gW ((f x).getD ⟨#[]⟩))).size<=_;rw[aY,Nat.succ_mul];omega
theorem Jb{f:ah->Option ah}(hm:MI w mb n f)(e:dA)(hall:∀x∈fU e,(f x).isSome=true)(tv:∃ao n c,vo=.slice ao n c)(tr:∃ao n c,vr=.slice ao n c)(ti:bL w vi e.ins)(tm:bL w vm e.impl)(hi:e.ins.length<=10000)(hmm:e.impl.length<=10000)(hx:∀x∈fU e,x.size<=32)(hcm:cm.size<=1048576)(hR:jC w):
  Calls Tryz.prog 166 #[.agg #[vo,vi,vm,vr,.string rl,.string cm],.map (some mb)] w fun e' w'=>e'=.returned (.agg (Lib.strCells (DY f e cm)).toArray)/\Below w.heap.size w w':=by
 have hsz1:(w.alloc (.cells #[vo,vi,vm,vr,.string rl,.string cm] 63)).heap.size=w.heap.size+1:=bO _ _
 have CU:Hid (∀wx,Below w.heap.size w wx->Calls Tryz.prog 244 #[.agg #[vo,vi,vm,vr,.string rl,.string cm]] wx fun e' w'=>∃v,e'=.returned v/\w'.ownsRow wx.heap.size 9 1 v (fU e).length ((fU e).map Value.string)/\Below wx.heap.size wx w'):=fun wx hb=>Dk (w:=wx) (r:=rl) (c:=cm) e tv tr (ti.iy hb) (tm.iy hb) hi hmm
 have HM0:=bB hm;have Rm:Hid ((∀x∈fU e,(f x).isSome=true)/\(∀x∈fU e,x.size<=32)/\(fU e).length<=20000/\cm.size<=1048576):=⟨hall,hx,by unfold fU;rw[aI];omega,hcm⟩;have HR:=bB hR;obtain⟨nu,nO,cO,rfl⟩:=tv;obtain⟨nH,nR,cR,rfl⟩:=tr;obtain⟨kE,cI,rfl,_,_⟩:=ti;obtain⟨lM,cM,rfl,_,_⟩:=tm;obtain⟨W0,hW0⟩:∃W0,W0=((w.alloc (.cells #[.slice nu nO cO,.slice kE e.ins.length cI,.slice lM e.impl.length cM,.slice nH nR cR,.string rl,.string cm] 63)).alloc (.cells oG 217)).alloc (.cells #[.pointer none,.slice none 0 0] 379):=⟨_,rfl⟩
 have hsz2:((w.alloc (.cells #[.slice nu nO cO,.slice kE e.ins.length cI,.slice lM e.impl.length cM,.slice nH nR cR,.string rl,.string cm] 63)).alloc (.cells oG 217)).heap.size=w.heap.size+1+1:=by rw[bO,hsz1]
 have hb0:Below w.heap.size w W0:=by rw[hW0];exact(((ay _ _).alloc (ai _) _).alloc aJ _).alloc aJ _
 have HB0:=bB hb0
 have HBT:Hid (dW W0 (w.heap.size+1+1) ⟨#[]⟩):=by rw[hW0,<-hsz2];exact uY _
 have HRW:Hid (W0.heap[w.heap.size]?=some (.cells #[.slice nu nO cO,.slice kE e.ins.length cI,.slice lM e.impl.length cM,.slice nH nR cR,.string rl,.string cm] 63 (0,0))/\W0.heap[w.heap.size+1]?=some (.cells oG 217 (0,0))):=by
  rw[hW0];refine⟨?_,?_⟩
  ·rw[bC _ _ _ aJ,bC _ _ _ aJ];exact bq _ _ _ rfl
  rw[bC _ _ _ aJ];exact bq _ _ _ hsz1.symm
 have HW0:=bB hW0;have HZ:Hid (oG.size=32):=rfl
 have HI:Hid ((Tryz.prog.info? 217).map (·.size)=some 32):=by unfold Hid;kernel_rfl
 have HI2:Hid ((Tryz.prog.info? 265).map (·.size)=some 33):=by unfold Hid;kernel_rfl
 clear hm hall hx hi hmm hR hW0 hb0
 go_enter Tryz.func166,Tryz.ntmps166
 go_wp2_with fail
 change Calls _ _ _ (((w.alloc (.cells #[.slice nu nO cO,.slice kE e.ins.length cI,.slice lM e.impl.length cM,.slice nH nR cR,.string rl,.string cm] 63)).alloc (.cells oG 217)).alloc (.cells #[.pointer none,.slice none 0 0] 379)) _;rw[<-HW0.out];generalize hbb:w.heap.size+1+1=bb at*;have Rn:=bB hbb;clear hbb;refine(rO bb ⟨#[]⟩ cm W0 HBT.out (by show 0+_<=_;omega)).mono ?_;rintro e1 w1 ⟨rfl,aii,aie⟩;have H1:=aV (aO aii aie);clear aii aie HBT
 go_wp2_with fail
 refine(xE bb _ 0 0 rfl w1 H1.out.1 (by rw[aL];show 0+_+1<=_;omega)).mono ?_;rintro e2 w2 ⟨rfl,afY,aif⟩;have H2:Hid (dW w2 bb (cm++⟨#[0]⟩)/\Below bb W0 w2):=⟨by rw[ByteArray.zk] at afY;exact afY,H1.out.2.trans aif⟩;have hrw:w2.heap[w.heap.size]?=some (.cells #[.slice nu nO cO,.slice kE e.ins.length cI,.slice lM e.impl.length cM,.slice nH nR cR,.string rl,.string cm] 63 (0,0)):=(H2.out.2.block w.heap.size (by have:=Rn.out;omega)).trans HRW.out.1
 have ca:∀i,w2.cell? ⟨w.heap.size,i,none⟩=(#[.slice nu nO cO,.slice kE e.ins.length cI,.slice lM e.impl.length cM,.slice nH nR cR,.string rl,.string cm]:Array Value)[i]?:=fun i=>aj _ _ _ _ _ _ hrw
 have a0:=ca 0;have a1:=ca 1;have a2:=ca 2;have a3:=ca 3;have a4:=ca 4;have a5:=ca 5;have HB2:Hid (Below w.heap.size w w2):=HB0.out.trans (H2.out.2.mono (by have:=Rn.out;omega));clear afY aif H1 hrw ca
 go_wp2_with fail
 refine(CU.out w2 HB2.out).mono ?_;rintro e3 w3 ⟨v,rfl,hrow,hb3⟩;obtain⟨af,Ao,hvf,_,hgf⟩:=bE hrow;have HB3:Hid (Below w.heap.size w w3/\Below bb W0 w3):=⟨HB2.out.trans (hb3.mono HB2.out.size),H2.out.2.trans (hb3.mono (iR H2.out.1.lt))⟩;have aaH:=aV (H2.out.1.below hb3);have HGF:=bB hgf;have CR:Hid (w3.ownsRow 0 9 1 v (fU e).length ((fU e).map Value.string)):=wu hrow (aS _);subst hvf;generalize hL:(fU e).length=L at*;have HL:=bB hL
 have l0:(L:Int)<=20000:=by have:=Rm.out.2.2.1;omega
 clear hrow hb3 hgf hL a0 a1 a2 a3 a4 a5 H2 HB2 CU
 go_wp2_with fail
 go_loopw [16] (fun i wr=>∃j:Nat,i=.int .i64 j/\j<=L/\dW wr bb (oz f ((fU e).take j) (cm++⟨#[0]⟩))/\wr.ownsRow 0 9 1 (.slice af L Ao) L ((fU e).map Value.string)/\Below w.heap.size w wr/\Below bb W0 wr) (fun i _=>L-(intOf i).toNat)
 case atStart=>exact⟨0,rfl,aS _,aaH.out,CR.out,HB3.out⟩
 case round=>
  clear aaH CR HB3;obtain⟨j,rfl,hj,hbt,hrow,hbw,hb0⟩:=hrel;have HM:=aV (aO hbt (aO hrow (aO hbw hb0)))
  have j0:(0:Int)<=(j:Int):=aJ
  have HSZ:Hid ((oz f ((fU e).take j) (cm++⟨#[0]⟩)).size<=3000000):=by
   have h1:=Du f ((fU e).take j) (cm++⟨#[0]⟩) (fun x hx=>Rm.out.2.1 x (PD hx))
   have h2:((fU e).take j).length<=20000:=by rw[ic];have:=Rm.out.2.2.1;omega
   have h3:(cm++⟨#[0]⟩:ah).size=cm.size+1:=by rw[aL];rfl
   have h4:=Rm.out.2.2.2;show _<=_;omega
  by_cases hlt:j<L
  ·have j1:(j:Int)<(L:Int):=aJ
   obtain⟨x,hx⟩:∃x,(fU e)[j]?=some x:=⟨(fU e)[j]'(by have:=HL.out;omega),eB⟩;obtain⟨gF,rfl⟩:=HGF.out aJ;have cx:=(dV hrow j (.string x) (by rw[dS,hx];rfl)).1;have hxs:=Rm.out.2.1 x (aU hx);have hlk:=eu.look (eu.keep HM0.out (hbw.block mb (eu.lt HM0.out))) (t:=258) Tryz.underlying258 Er x (by unfold maxLen;omega);obtain⟨d,hd⟩:=fQ.1 (Rm.out.1 x (aU hx));rw[show(wP f x).getD (.agg lm)=.agg (oZ d).toArray by unfold wP;rw[hd];rfl] at hlk;have HC:Hid ((oZ d).toArray.size=33/\(oZ d).toArray.all (·.oneCell')=true/\(oZ d).toArray.toList=oZ d):=⟨by rw[bZ];exact Kv d,eH (Hy d),rfl⟩
   have Ew:Hid (oz f ((fU e).take (j+1)) (cm++⟨#[0]⟩)=oz f ((fU e).take j) (cm++⟨#[0]⟩)++x++⟨#[0]⟩++gW d/\x.size<=32):=⟨by
    unfold oz;rw[dU,hx,lX,yZ,jA,hd]
    rfl,hxs⟩
   clear hbt hrow hbw hb0 hx hxs hd;generalize (oZ d).toArray=C at*;generalize oz f ((fU e).take j) (cm++⟨#[0]⟩)=T at*
   go_wp2_with (first
    | (refine cK (w:=wr.alloc (.cells lm 265)) rfl 265 (.tmp 8) (.tmp 22) rfl wr.heap.size 0 C rfl rfl (bR (bq _ _ _ rfl) 0 _ (by rw[HC.out.1];decide)) (by rw[HC.out.1];exact HI2.out) HC.out.2.1 ?_;refine dO ?_)
    |fail)
   have HW3:Hid (Below wr.heap.size wr ((wr.alloc (.cells lm 265)).setCells wr.heap.size 0 C.toList)/\((wr.alloc (.cells lm 265)).setCells wr.heap.size 0 C.toList).heap[wr.heap.size]?=some (.cells C 265 (0,0))):=⟨jo _ _ ((ay _ _).alloc (ai _) _) (ai _),by
    have h:=uL Tryz.prog (wr.alloc (.cells lm 265)) wr.heap.size 265 lm C.toList (bq _ _ _ rfl) (by rw[aX,HC.out.1];rfl) (fun u hu=>kU.1 HC.out.2.1 u (uS.1 hu));rw[dw] at h
    exact h⟩
   generalize (wr.alloc (.cells lm 265)).setCells wr.heap.size 0 C.toList=w4 at*;have ru:Hid (dW w4 bb T/\w4.ownsRow 0 9 1 (.slice (some ⟨gF,0,none⟩) L Ao) L ((fU e).map Value.string)/\Below w.heap.size w w4/\Below bb W0 w4/\w4.heap[wr.heap.size]?=some (.cells C 265 (0,0))/\bb<wr.heap.size):=⟨HM.out.1.below HW3.out.1,dR HM.out.2.1 (fun k hk=>HW3.out.1.block k (bF HM.out.2.1 k hk).2),HM.out.2.2.1.trans (HW3.out.1.mono HM.out.2.2.1.size),HM.out.2.2.2.trans (HW3.out.1.mono (iR HM.out.1.lt)),HW3.out.2,HM.out.1.lt⟩;generalize wr.heap.size=eb at*;clear HM HW3 cx hlk;unfold Hid
   go_wp2_with fail
   refine(Gc bb T x w4 ru.out.1 (by have:=HSZ.out;have:=Ew.out.2;omega)).mono ?_;rintro e5 w5 ⟨rfl,aij,Wi,af6⟩
   have Ac:Hid (dW w5 bb (T++x)/\w5.ownsRow 0 9 1 (.slice (some ⟨gF,0,none⟩) L Ao) L ((fU e).map Value.string)/\Below w.heap.size w w5/\Below bb W0 w5/\w5.heap[eb]?=some (.cells C 265 (0,0))/\bb<eb):=by
    have h:=ru.out;refine⟨aij,dR h.2.1 (fun k hk=>?_),h.2.2.1.trans (Wi.mono (by have:=Rn.out;omega)),h.2.2.2.1.trans Wi,af6 eb _ h.2.2.2.2.1 (fun e=>by have:=h.2.2.2.2.2;have:=ax e;omega) (fun c fz e=>by injection e with _ e _;exact absurd e bS),h.2.2.2.2.2⟩;obtain⟨_,⟨q,_⟩|⟨g,cap,cur,q,_,hh,_⟩⟩:=h.2.1
    ·cases q
    injection q with q _ _
    have e1:gF=g:=by injection q with q;injection q
    have e2:gF=k:=ax hk;subst e1 e2;exact(af6 _ _ hh (fun e=>Am h.1 hh (ax e)) (fun c fz e=>by injection e with _ e _;exact absurd e bS)).trans hh.symm
   clear aij Wi af6 ru
   go_wp2_with fail
   refine(Vy bb (T++x) 0 0 rfl w5 Ac.out.1 (by rw[aL];have:=HSZ.out;have:=Ew.out.2;omega)).mono ?_;rintro e6 w6 ⟨rfl,aik,afW,af7⟩
   have HM6:Hid (dW w6 bb (T++x++⟨#[0]⟩)/\w6.ownsRow 0 9 1 (.slice (some ⟨gF,0,none⟩) L Ao) L ((fU e).map Value.string)/\Below w.heap.size w w6/\Below bb W0 w6/\w6.heap[eb]?=some (.cells C 265 (0,0))/\bb<eb):=by
    have h:=Ac.out;refine⟨aik,dR h.2.1 (fun k hk=>?_),h.2.2.1.trans (afW.mono (by have:=Rn.out;omega)),h.2.2.2.1.trans afW,af7 eb _ h.2.2.2.2.1 (fun e=>by have:=h.2.2.2.2.2;have:=ax e;omega) (fun c fz e=>by injection e with _ e _;exact absurd e bS),h.2.2.2.2.2⟩;obtain⟨_,⟨q,_⟩|⟨g,cap,cur,q,_,hh,_⟩⟩:=h.2.1
    ·cases q
    injection q with q _ _
    have e1:gF=g:=by injection q with q;injection q
    have e2:gF=k:=ax hk;subst e1 e2;exact(af7 _ _ hh (fun e=>Am h.1 hh (ax e)) (fun c fz e=>by injection e with _ e _;exact absurd e bS)).trans hh.symm
   clear aik afW af7 Ac
   have ND:Hid (Calls Tryz.prog 247 #[.pointer (some ⟨bb,0,none⟩),.slice (some ⟨eb,1,none⟩) 32 32] w6 fun e w'=>e=.returned (.tuple #[.int .i64 32,.nilIface])/\dW w' bb (T++x++⟨#[0]⟩++gW d)/\Below bb w6 w'/\Lib.OthersKept 5 (some bb) w6 w'):=by
    have h:=Hg bb (T++x++⟨#[0]⟩) (gW d) eb 1 32 w6 HM6.out.1 (fun w' _ ho=>(ho eb _ HM6.out.2.2.2.2.1 (fun e=>by have:=HM6.out.2.2.2.2.2;have:=ax e;omega) (fun c fz e=>by injection e with _ e _;exact absurd e bS)).trans HM6.out.2.2.2.2.1.symm) (by rw[aL,aL,kS];have:=HSZ.out;have:=Ew.out.2;show _+_+1+32<=_;omega) (fun k u hu=>by
     rw[aj _ _ _ _ _ _ HM6.out.2.2.2.2.1,<-cZ,HC.out.2.2,Yz]
     exact hu)
    rw[kS] at h;exact h
   go_wp2_with fail
   refine ND.out.mono ?_;rintro e7 w7 ⟨rfl,ail,afX,af8⟩
   have HM7:Hid (dW w7 bb (T++x++⟨#[0]⟩++gW d)/\w7.ownsRow 0 9 1 (.slice (some ⟨gF,0,none⟩) L Ao) L ((fU e).map Value.string)/\Below w.heap.size w w7/\Below bb W0 w7/\w7.heap[eb]?=some (.cells C 265 (0,0))/\bb<eb):=by
    have h:=HM6.out;refine⟨ail,dR h.2.1 (fun k hk=>?_),h.2.2.1.trans (afX.mono (by have:=Rn.out;omega)),h.2.2.2.1.trans afX,af8 eb _ h.2.2.2.2.1 (fun e=>by have:=h.2.2.2.2.2;have:=ax e;omega) (fun c fz e=>by injection e with _ e _;exact absurd e bS),h.2.2.2.2.2⟩;obtain⟨_,⟨q,_⟩|⟨g,cap,cur,q,_,hh,_⟩⟩:=h.2.1
    ·cases q
    injection q with q _ _
    have e1:gF=g:=by injection q with q;injection q
    have e2:gF=k:=ax hk;subst e1 e2;exact(af8 _ _ hh (fun e=>Am h.1 hh (ax e)) (fun c fz e=>by injection e with _ e _;exact absurd e bS)).trans hh.symm
   clear ail afX af8 HM6;clear ND HC
   go_wp2_with fail
   exact⟨⟨j+1,oW,aJ,by rw[Ew.out.1];exact HM7.out.1,HM7.out.2.1,HM7.out.2.2.1,HM7.out.2.2.2.1⟩,by simp[intOf];omega⟩
  obtain rfl:j=L:=aJ
  have CU:Hid (Calls Tryz.prog 248 #[.pointer (some ⟨bb,0,none⟩)] wr fun e' w'=>e'=.returned (.string (oz f (fU e) (cm++⟨#[0]⟩)))/\Below bb wr w'):=by
   have h:=uX _ _ wr HM.out.1;rw[bK (dG HL.out)] at h
   exact h.mono fun _ _ ⟨h1,_,h3⟩=>⟨h1,h3⟩
  have HSZ2:Hid ((oz f (fU e) (cm++⟨#[0]⟩)).size<=3000000):=by have h:=HSZ.out;rw[bK (dG HL.out)] at h;exact h
  have HSG:Hid (DY f e cm=gW (oz f (fU e) (cm++⟨#[0]⟩))):=rfl;clear hbt hrow hbw hb0;generalize oz f (fU e) (cm++⟨#[0]⟩)=T at*
  go_wp2_with fail
  refine CU.out.mono ?_;rintro e5 w5 ⟨rfl,Wi⟩;have H5:Hid (Below w.heap.size w w5/\Below bb W0 w5):=⟨HM.out.2.2.1.trans (Wi.mono (by have:=Rn.out;omega)),HM.out.2.2.2.trans Wi⟩;clear Wi CU
  go_wp2_with fail
  refine(CG T (by have:=HSZ2.out;omega) w5 (HR.out.later (fun k hk=>H5.out.1.block k hk))).mono ?_;rintro e6 w6 ⟨rfl,hb6⟩
  have H6:Hid (Below w.heap.size w w6/\w6.heap[w.heap.size+1]?=some (.cells oG 217 (0,0))):=by
   have hlt:w.heap.size+1<bb:=by have:=Rn.out;omega
   refine⟨H5.out.1.trans (hb6.mono H5.out.1.size),(hb6.block _ ?_).trans ((H5.out.2.block _ hlt).trans HRW.out.2)⟩;have h1:=HM.out.1.lt;have h2:=H5.out.2.size;have h3:=bN HRW.out.2;omega
  have HSS:Hid ((Lib.strCells (gW T)).toArray.size=32/\(Lib.strCells (gW T)).toArray.all (·.oneCell')=true):=⟨by rw[bZ,Lib.strCells_length,kS],eH (fun u hu=>by obtain⟨y,_,rfl⟩:=fP.1 hu;rfl)⟩
  have HSE:Hid ((Lib.strCells (DY f e cm)).toArray=(Lib.strCells (gW T)).toArray):=by rw[HSG.out];rfl
  clear hb6 HSG H5;generalize (Lib.strCells (gW T)).toArray=S at*
  go_wp2_with (first
   | (refine cK rfl 217 (.tmp 4) (.tmp 31) rfl (w.heap.size+1) 0 S rfl rfl (bR H6.out.2 0 _ (by rw[HSS.out.1,HZ.out];decide)) (by rw[HSS.out.1];exact HI.out) HSS.out.2 ?_;refine dO ?_)
   |fail)
  have H7:Hid (Below w.heap.size w (w6.setCells (w.heap.size+1) 0 S.toList)/\(w6.setCells (w.heap.size+1) 0 S.toList).heap[w.heap.size+1]?=some (.cells S 217 (0,0))):=⟨jo _ _ H6.out.1 (fH _),by
   have h:=uL Tryz.prog w6 (w.heap.size+1) 217 oG S.toList H6.out.2 (by rw[aX,HSS.out.1];rfl) (fun u hu=>kU.1 HSS.out.2 u (uS.1 hu));rw[dw] at h
   exact h⟩
  generalize w6.setCells (w.heap.size+1) 0 S.toList=w7 at*;unfold Hid
  go_wp2_with fail
  refine bV (pO Tryz.results166 _ _ (w.heap.size+1) 217 S (0,0) _ rfl H7.out.2 Tryz.underlying217 rfl (by rw[HSS.out.1];exact HI.out)) rfl ?_;exact⟨by rw[HSE.out],H7.out.1⟩
theorem TG{α β:Type}{f:α->Option β}{g:α->β}:∀l:List α,(∀i∈l,f i=some (g i))->l.mapM f=some (l.map g)
 |[],_=>rfl
 |x::l,h=>by
  rw[List.mapM_cons,h x (aQ ..),TG l (fun i hi=>h i (aZ _ hi))];rfl
theorem XZ(s:ah)(hs:s.size=32):Tryz.prog.keyLits 2 217 (Lib.strCells s)=some (s.data.toList.map fun b=>Lit.int .u8 b.toNat):=by
 have hu:Tryz.prog.underlying 217=some (.array 32 5):=Tryz.underlying217;have hu5:Tryz.prog.underlying 5=some (.int .u8):=Tryz.underlying5
 have hc:Tryz.prog.cellsOf 217=32:=dD
 have hc5:Tryz.prog.cellsOf 5=1:=dD
 have hl:(Lib.strCells s).length=32:=by rw[Lib.strCells_length,hs]
 have hld:s.data.toList.length=32:=hs;unfold Program.keyLits;rw[hu]
 simp only
 rw[aH (by rw[hl,hc]),hc5,TG (g:=fun i=>[Lit.int .u8 (s.data.toList.getD i 0).toNat]) (List.range 32) (fun i hi=>?_)]
 ·rw[nD]
  congr 1
  apply FM;intro i;rw[show(List.map (fun i=>[Lit.int IntKind.u8 (s.data.toList.getD i 0).toNat]) (List.range 32)).flatten=(List.range 32).map fun i=>Lit.int IntKind.u8 (s.data.toList.getD i 0).toNat by rw[<-List.flatMap_def];exact(List.map_eq_flatMap ..).symm]
  by_cases hi:i<32
  ·have hsd:s.data.size=32:=hs
   simp[hi,hsd]
  rw[gU (by simp;omega),gU (by rw[jV,hld];omega)]
 have hi:i<32:=kW.1 hi
 have e:((Lib.strCells s).drop (i*1)).take 1=[Value.int .u8 (s.data.toList.getD i 0).toNat]:=by
  rw[PG];apply FM;intro j
  cases j with
  |zero=>
   rw[xQ,aH bS,List.getElem?_drop];unfold Lib.strCells
   simp[hld,hi]
  |succ j=>rw[gU (by rw[ic];omega),gU eB]
 rw[e];unfold Program.keyLits;rw[hu5]
 simp only
 rw[aH];refine⟨trivial,?_⟩;generalize (s.data.toList.getD i 0)=b;have h:=b.toNat_lt;show(decide (IntKind.u8.min<=((b.toNat:Nat):Int))&&decide (((b.toNat:Nat):Int)<=IntKind.u8.max))=true;rw[show IntKind.u8.min=0 from rfl,show IntKind.u8.max=255 from rfl,bT aJ,bT aJ];rfl
theorem XR(a b:ah)(ha:a.size=32)(hb:b.size=32)(w:ak):(Op.equalIn 10000 217 (.agg (Lib.strCells a).toArray) (.agg (Lib.strCells b).toArray)).run Tryz.prog w=.ok (decide (a=b)) w:=by
 have hc:Tryz.prog.cellsOf 217=32:=dD
 have hf:∀s:ah,s.size=32->(Value.agg (Lib.strCells s).toArray).formed Tryz.prog 217=true:=fun s hs=>by
  unfold Value.formed;rw[Tryz.underlying217]
  simp only
  rw[bZ,Lib.strCells_length,hs,hc];rfl
 obtain⟨r,hr,hi⟩:=run_equalIn_deep (P:=Tryz.prog) 9998 2 217 dD w 2 2 _ _ _ _ (hf a ha) (hf b hb) (XZ a ha) (XZ b hb);refine hr.trans ?_
 have e:r=decide (a=b):=by
  have q:(a.data.toList.map fun b=>Lit.int .u8 b.toNat)=(b.data.toList.map fun b=>Lit.int .u8 b.toNat)↔a=b:=by
   constructor
   ·intro h
    have h2:a.data.toList=b.data.toList:=by
     refine List.map_inj_right (fun x y e=>?_)|>.1 h
     injection e with _ e;exact qh.1 aJ
    exact ByteArray.ext (fJ.1 h2)
   intro h;rw[h]
  rw[q] at hi
  by_cases g:a=b
  ·rw[bT g];exact hi.2 g
  rw[bM g]
  rcases r with _|_
  ·rfl
  exact absurd (hi.1 rfl) g
 rw[e]
end
end Go.Proofs.YthhbpebihgjpjaaGreatDoor
