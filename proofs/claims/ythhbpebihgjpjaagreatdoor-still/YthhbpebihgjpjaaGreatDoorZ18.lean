import Derived.Test.YthhbpebihgjpjaaGreatDoorZ17
import Derived.Maps.RangeWalk
namespace Go.Proofs.YthhbpebihgjpjaaGreatDoor
set_option maxRecDepth 1000000
set_option maxHeartbeats 20000000
set_option linter.all false
section
open Go.RowKit Go.MuLone Go.Maps
def qI(l:List bP):Prop:=l.Pairwise (fun x y=>x.1≠y.1)
def goneBytes(left:Lit->Bool):List bP->Nat
 |[]=>0
 |x::r=>(if left (jJ x.1)=true then 0 else x.2.size)+goneBytes left r
def totalBytes(l:List bP):Nat:=goneBytes (fun _=>false) l
theorem abK(a:ah):(jJ a).sameKey (jJ a)=true:=by simp[jJ,Lit.sameKey]
variable {a b:ah}
theorem Ot(h:a≠b):(jJ a).sameKey (jJ b)=false:=sameKey_ne (fun e=>h (xY e))
theorem Zc(l:List bP)(name data:ah)(h:fV l name=some data):∃x∈l,x.1=name:=by
 induction l with
 |nil=>simp[fV] at h
 |cons y r ih=>
  by_cases e:y.1=name
  ·exact⟨y,eB,e⟩
  rw[fV,aA e] at h;obtain⟨x,hx,he⟩:=ih h;exact⟨x,by simp[hx],he⟩
theorem EP(l:List bP)(name:ah)(h:∀x∈l,x.1≠name):fV l name=none:=by
 induction l with
 |nil=>rfl
 |cons y r ih=>rw[fV,aA (h y eB),ih (fun x hx=>h x (by simp[hx]))]
theorem Zh(left:Lit->Bool)(name:ah):∀l:List bP,(∀x∈l,x.1≠name)->goneBytes (fun z=>left z&&!z.sameKey (jJ name)) l=goneBytes left l:=by
 intro l
 induction l with
 |nil=>intro _;rfl
 |cons y r ih=>
  intro h;simp only[goneBytes];rw[ih (fun x hx=>h x (by simp[hx]))]
  simp[Ot (h y eB)]
theorem SI(left:Lit->Bool)(name data:ah)(hl:left (jJ name)=true):∀l:List bP,qI l->fV l name=some data->goneBytes (fun z=>left z&&!z.sameKey (jJ name)) l=goneBytes left l+data.size:=by
 intro l
 induction l with
 |nil=>intro _ h;simp[fV] at h
 |cons y r ih=>
  intro hd h;have hp:=oP.1 hd
  by_cases e:y.1=name
  ·rw[fV,aH e] at h;have h2:y.2=data:=ax h;simp only[goneBytes];rw[Zh left name r (fun x hx hh=>hp.1 x hx (e.trans hh.symm))]
   simp[e,hl,abK,h2];omega
  rw[fV,aA e] at h;simp only[goneBytes];rw[ih hp.2 h]
  simp[Ot e];omega
theorem Zg(left:Lit->Bool):∀l:List bP,(∀x∈l,left (jJ x.1)=true)->goneBytes left l=0:=by
 intro l
 induction l with
 |nil=>intro _;rfl
 |cons y r ih=>intro h;simp only[goneBytes];rw[ih (fun x hx=>h x (by simp[hx])),aH (h y eB)]
theorem abj(left:Lit->Bool)(h:∀kl,left kl=false)(l:List bP):goneBytes left l=totalBytes l:=by
 have:left=fun _=>false:=funext h
 rw[this];rfl
theorem adB(left:Lit->Bool):∀l:List bP,goneBytes left l<=totalBytes l:=by
 intro l
 induction l with
 |nil=>exact ai _
 |cons y r ih=>simp only[totalBytes,goneBytes] at*;split<;>simp<;>omega
theorem Kh(l:List bP):∀x∈l,(fV l x.1).isSome=true:=by
 induction l with
 |nil=>intro x hx;cases hx
 |cons y r ih=>
  intro x hx
  by_cases e:y.1=x.1
  ·simp[fV,e]
  rw[fV,aA e]
  rcases bg.1 hx with rfl|h
  ·exact absurd rfl e
  exact ih x h
theorem pI(l r:List bP):totalBytes (l++r)=totalBytes l+totalBytes r:=by
 induction l with
 |nil=>simp[totalBytes,goneBytes]
 |cons y l ih=>simp only[totalBytes,List.cons_append,goneBytes] at*;rw[ih];omega
theorem LZ(l:List bP)(n:Int):zV l n l.length=n+(totalBytes l:Int):=by
 have key:∀j,j<=l.length->zV l n j=n+(totalBytes (l.take j):Int):=by
  intro j
  induction j with
  |zero=>intro _;simp[zV,totalBytes,goneBytes]
  |succ j ih=>
   intro hj;rw[zV,ih aJ,aag l j _ (Cr l j aJ),pI]
   simp[totalBytes,goneBytes];omega
 rw[key l.length (ai _),rz]
theorem zP{key:Value}{kl:Lit}(h:keyOf Tryz.prog 9 key=some kl):∃s:ah,key=.string s/\kl=jJ s:=by
 obtain⟨s,e1,e2,_⟩:=WideMaps.string_of_keyOf Tryz.underlying9 h;exact⟨s,e1,e2⟩
variable {ops:Array Oper}{o:Oper}{Q:Exit->Act->ak->Prop}
theorem yT(w:ak){rest:List Oper}{a:Act}(hg:o.guard=none)(it:Operand)(hop:o.op=Op.next it false)
  (b r n:Nat) (D:DataW Unit) (left:Lit->Bool) (cnt:Nat) (hit:a.eval it=.pointer (some ⟨r,0,none⟩)) (h:w.ranges Tryz.prog 9 rP b r n D left cnt)
  (hDone:cnt=0->(∀kl,left kl=false)->wpList Tryz.prog ops Q rest (a.put o.dst (.tuple #[.bool false])) w)
  (hMore:∀(x c:ah) (w':ak) (cnt':Nat),left (jJ x)=true->(∀zd,D.atKey (jJ x) zd=.lit (.string c.data.toList))->w'.ranges Tryz.prog 9 rP b r n D (fun z=>left z&&!z.sameKey (jJ x)) cnt'->cnt'<cnt->
    w.grownBy w' (some r)->w'.heap.size=w.heap.size->(Instr.entry (.pointer (some ⟨r,0,none⟩))).run Tryz.prog w'=.ok (.tuple #[.string x,.agg #[.string c]]) w'->wpList Tryz.prog ops Q rest (a.put o.dst (.tuple #[.bool true,.string x,.agg #[.string c]])) w'):
  wpList Tryz.prog ops Q (o::rest) a w:=
 wpList_next_ranges w hg it hop 9 Ty rP Value.string (fun c=>Value.agg #[.string c]) (fun key kl hkey=>by obtain⟨s,e,_⟩:=zP hkey;exact⟨s,e⟩) (fun v y hv=>by obtain⟨s,e,_⟩:=Au hv;exact⟨s,e⟩) b r n D left cnt hit h hDone
  (fun x c kl y w' cnt' hkey hlk hv hat hrg hlt hgr hsz hen=>by
    obtain⟨x',ex,rfl⟩:=zP hkey
    cases ex
    have h3:y.1=.lit (.string c.data.toList):=by
     have:=(ax hv).symm;rw[this]
    exact hMore x c w' cnt' hlk (fun zd=>(hat zd).trans h3) hrg hlt hgr hsz hen)
theorem NS(l:List bP)(hd:qI l)(ht:totalBytes l<=1152921504606846976)(d:dX)(fb:Nat)(lk:Int)(nb sb n:Nat)(sv:Value)(w:ak)(h:bH w fb d lk nb sb sv)(hm:dF w nb n l):
  Calls Tryz.prog 74 #[.pointer (some ⟨fb,0,none⟩)] w fun e w'=>e=.returned (.int .i64 (totalBytes l))/\Below w.heap.size w w':=by
 have c3:w.cell? ⟨fb,3,none⟩=some (.map (some nb)):=by rw[aj _ _ _ _ _ _ h];rfl
 obtain⟨D,hown,hh⟩:=hm;have HH:=aV hh;have HD:=aV hd;have hbl:=hown.lt;clear h hh hd
 go_enter Tryz.func74,Tryz.ntmps74
 go_wp2_with (first
  | (at_range;refine wpList_range_own _ rfl _ 85 rfl 9 117 Ty Tryz.underlying85 _ nb n _ rfl hown ?_;intro w0 hrg0 hg0 hs0)
  |go_in)
 go_frame
 clear c3
 go_loopw [3] (fun t wr=>∃(left:Lit->Bool) (cnt:Nat),wr.ranges Tryz.prog 9 rP nb w.heap.size n D left cnt/\t=.int .i64 (goneBytes left l:Nat)/\Below w.heap.size w wr) (fun _ wr=>wr.rangeLeft nb w.heap.size)
 case atStart=>
  refine⟨_,_,hrg0,?_,(ay _ _).grown hg0 (ai _) (fun j hj=>by cases hj)⟩;rw[Zg _ l (fun x hx=>by rw[HH.out.has];exact Kh l x hx)];rfl
 case round=>
  obtain⟨left,cnt,hrg,rfl,hnx⟩:=hrel
  go_wp2_with (first
   | (at_next;refine yT _ rfl _ rfl nb w.heap.size n _ _ _ rfl hrg ?_ ?_)
   |go_in)
  ·intro hc0 hl0;have HE:=aV (abj left hl0 l);clear hl0;generalize goneBytes left l=t at*
   go_wp2
   go_ret;exact⟨by rw[<-HE.out];rfl,hnx⟩
  intro x c w1 cnt1 hlk hat hrg1 hlt hg1 hs1 hen
  have hfx:fV l x=some c:=by
   have h1:(fV l x).isSome=true:=by rw[<-HH.out.has x];exact has_true_of_atKey hat
   obtain⟨c',hc'⟩:=fQ.1 h1;have h2:=HH.out.at' x;rw[hat,hc'] at h2;injection h2 with h2;injection h2 with h2;rw[hc',ByteArray.ext (fJ.1 h2)];rfl
  have HS:=aV (SI left x c hlk l HD.out hfx)
  have hle:goneBytes left l+c.size<=1152921504606846976:=by rw[<-HS.out];exact aC (adB _ l) ht
  have HR2:Hid ((w1.alloc (.cells #[.string c] 117)).ranges Tryz.prog 9 rP nb w.heap.size n D (fun z=>left z&&!z.sameKey (jJ x)) cnt1):=hrg1.alloc _;have HB2:Hid (Below w.heap.size w (w1.alloc (.cells #[.string c] 117))):=(hnx.grown hg1 hnx.size (fun j hj=>by cases hj;exact ai _)).alloc (by have:=hnx.size;omega) _;have HLT:=aV hlt;have HRG:=aV hrg;clear hfx hat hlk hrg1 hlt hg1 hs1 hrg hnx;generalize (fun z=>left z&&!z.sameKey (jJ x))=left2 at*
  have ht2:((goneBytes left l:Nat):Int)+(c.size:Int)<=1152921504606846976:=aJ
  generalize goneBytes left l=t at*
  go_wp2
  go_roundw
  case rel=>
   first
    |exact⟨left2,cnt1,HR2.out,by rw[HS.out];go_num,HB2.out⟩
    | ((repeat apply Exists.intro);exact⟨⟨left2,cnt1,HR2.out,by rw[HS.out];go_num,HB2.out⟩,rfl⟩)
  case measure=>rw[HR2.out.left_eq,HRG.out.left_eq];exact HLT.out
theorem abQ:∀(x y:List UInt8),Op.bytesLess x y=decide (x<y):=by
 intro x
 induction x with
 |nil=>intro y;cases y<;>simp[Op.bytesLess]
 |cons a x ih=>
  intro y
  cases y with
  |nil=>simp[Op.bytesLess]
  |cons b y=>
   rw[Op.bytesLess,ih y];simp only[List.cons_lt_cons_iff,Bool.decide_or,Bool.decide_and];rfl
theorem Gu(a b:ah):uD a b=true↔a.data.toList<b.data.toList:=by
 rw[uD,abQ,eG,eG,lg]
theorem NT(h:a.data.toList=b.data.toList):a=b:=by
 cases a;cases b;congr;exact Array.ext' h
theorem TA{c:ah}(h:uD a b=true)(h2:uD b c=true):uD a c=true:=by
 rw[Gu] at*;exact List.lt_trans h h2
theorem Tz(h:¬uD a b=true)(hne:a≠b):uD b a=true:=by
 rw[Gu] at*
 rcases List.le_iff_lt_or_eq.1 (List.not_lt.1 h) with h2|h2
 ·exact h2
 exact absurd (NT h2.symm) hne
def qg(l:List bP):Prop:=l.Pairwise (fun x y=>uD x.1 y.1=true)
variable {l:List bP}
theorem qg.distinct(h:qg l):qI l:=h.imp (fun h=>Fg h)
theorem Ke(p:List bP)(x:bP)(r:List bP):jY (p++x::r) p.length=x:=by simp[jY]
theorem YJ(x:bP):∀(n:Nat) (p r:List bP),p.length=n->∃a b,p=a++b/\Gd (p++x::r) p.length=a++x::(b++r)/\(∀y∈b,uD x.1 y.1=true)/\(∀y q,a=q++[y]->¬uD x.1 y.1=true):=by
 intro n
 induction n with
 |zero=>
  intro p r hp;obtain rfl:p=[]:=mM hp;exact⟨[],[],rfl,rfl,fun y hy=>(by cases hy),fun y q e=>absurd e eB⟩
 |succ n ih=>
  intro p r hp;obtain⟨q,y,rfl⟩:∃q y,p=q++[y]:=⟨p.dropLast,p.getLast (by intro e;subst e;cases hp),(Bz _).symm⟩
  have hq:q.length=n:=by simpa using hp
  have e1:jY (q++[y]++x::r) (q.length+1)=x:=by
   have:=Ke (q++[y]) x r
   simpa using this
  have e2:jY (q++[y]++x::r) q.length=y:=by
   have:=Ke q y (x::r)
   simpa using this
  have e3:(q++[y]).length=q.length+1:=eB
  rw[e3,Gd,e1,e2]
  by_cases h:uD x.1 y.1=true
  ·rw[aH h]
   have e4:((q++[y]++x::r).set (q.length+1) y).set q.length x=q++x::(y::r):=by
    apply FM;intro i;simp only[List.getElem?_set,List.getElem?_append,aI,aY,Mw,dY]
    rcases Nat.lt_trichotomy i q.length with c|c|c
    ·simp[c,show¬q.length=i by omega,show¬q.length+1=i by omega,show i<q.length+1 by omega]
    ·subst c;simp;omega
    obtain⟨j,rfl⟩:∃j,i=q.length+(j+1):=⟨i-q.length-1,aJ⟩
    cases j with
    |zero=>simp
    |succ j=>simp[show¬q.length+(j+1+1)<q.length by omega,show¬q.length+(j+1+1)<q.length+1 by omega,show q.length+(j+1+1)-(q.length+1)=j+1 by omega,show q.length+(j+1+1)-q.length=j+2 by omega]
   rw[e4];obtain⟨a,b,h1,h2,h3,h4⟩:=ih q (y::r) hq;refine⟨a,b++[y],by rw[h1,eZ],by rw[h2];simp,fun z hz=>?_,h4⟩
   rcases bQ.1 hz with hz|hz
   ·exact h3 z hz
   rw[bD.1 hz];exact h
  rw[aA h];refine⟨q++[y],[],eB,eB,fun z hz=>(by cases hz),fun z q' e=>?_⟩;have:=(List.append_inj' e rfl).2
  simp at this
  rw[<-this];exact h
theorem Jr(l:List bP)(name data:ah)(h:iW l name=-1):∃a b,l=a++b/\xB l name data=a++(name,data)::b/\(∀y∈b,uD name y.1=true)/\(∀y q,a=q++[y]->¬uD name y.1=true):=by
 obtain⟨a,b,h1,h2,h3,h4⟩:=YJ (name,data) l.length l [] rfl;exact⟨a,b,h1,by rw[xB,aH h,h2];simp,h3,h4⟩
theorem Fv(l:List bP)(name data:ah)(h:iW l name≠-1):∃a b old,l=a++(name,old)::b/\xB l name data=a++(name,data)::b:=by
 rcases Ik l name with ⟨j,x,h1,h2,h3⟩|⟨h1,_⟩
 ·obtain⟨hj,hx⟩:=aN.1 h2;refine⟨l.take j,l.drop (j+1),x.2,?_,?_⟩
  ·have:x=(name,x.2):=by rw[<-h3]
   rw[<-this,<-hx,<-fG hj,MO]
  rw[xB,aA h,h1,Int.toNat_natCast,List.set_eq_take_append_cons_drop,aH hj]
 exact absurd h1 h
theorem Eg(l:List bP)(name:ah)(h:iW l name=-1):∀x∈l,x.1≠name:=by
 rcases Ik l name with ⟨j,x,h1,_,_⟩|⟨_,h2⟩
 ·rw[h1] at h;omega
 exact h2
theorem qg.put(h:qg l)(name data:ah):qg (xB l name data):=by
 by_cases hp:iW l name=-1
 ·obtain⟨a,b,rfl,h2,h3,h4⟩:=Jr l name data hp;have hn:=Eg _ _ hp;rw[h2];obtain⟨ha,hb,hab⟩:=mO.1 h
  have hax:∀y∈a,uD y.1 name=true:=by
   intro y hy
   have afU:a≠[]:=by rintro rfl;cases hy
   have e:a=a.dropLast++[a.getLast afU]:=(Bz afU).symm;have hl:uD (a.getLast afU).1 name=true:=Tz (h4 _ _ e) (fun q=>hn _ eB q.symm);rw[e] at hy
   rcases bQ.1 hy with hy|hy
   ·rw[e] at ha;exact TA ((mO.1 ha).2.2 y hy _ eB) hl
   rw[bD.1 hy];exact hl
  refine mO.2 ⟨ha,oP.2 ⟨h3,hb⟩,fun y hy z hz=>?_⟩
  rcases bg.1 hz with rfl|hz
  ·exact hax y hy
  exact hab y hy z hz
 obtain⟨a,b,old,rfl,h2⟩:=Fv l name data hp;rw[h2];obtain⟨ha,hb,hab⟩:=mO.1 h;refine mO.2 ⟨ha,oP.2 ⟨(oP.1 hb).1,(oP.1 hb).2⟩,fun y hy z hz=>?_⟩
 rcases bg.1 hz with rfl|hz
 ·exact hab y hy (name,old) (aQ ..)
 exact hab y hy z (aZ _ hz)
theorem qg.without(h:qg l)(name:ah):qg (iO l name):=h.sublist List.filter_sublist
theorem qg.apply(h:qg l)(o:lG):qg (fC l o):=by
 unfold fC
 split
 ·exact h.put _ _
 split
 ·exact h.put _ _
 split
 ·exact(h.without _).put _ _
 exact h.without _
theorem yo(x:bP)(l:List bP):totalBytes (x::l)=x.2.size+totalBytes l:=by simp[totalBytes,goneBytes]
theorem JY(a b:List bP)(name old:ah)(h:qI (a++(name,old)::b)):fZ (a++(name,old)::b) name=old:=by
 rw[oK,EQ,EP a name (fun x hx=>(mO.1 h).2.2 x hx _ (aQ ..))]
 simp[fV]
theorem Hq(l:List bP)(name:ah)(h:iW l name=-1):fZ l name=⟨#[]⟩:=by
 rw[oK,EP l name (Eg l name h)];rfl
theorem vC(l:List bP)(h:qI l)(name data:ah):totalBytes (xB l name data)+(fZ l name).size=totalBytes l+data.size:=by
 by_cases hp:iW l name=-1
 ·rw[Hq l name hp];obtain⟨a,b,rfl,h2,_,_⟩:=Jr l name data hp;rw[h2,pI,pI,yo];have:(⟨#[]⟩:ah).size=0:=rfl
  simp only
  omega
 obtain⟨a,b,old,rfl,h2⟩:=Fv l name data hp;rw[JY a b name old h,h2,pI,pI,yo,yo]
 simp only
 omega
theorem Ba(l:List bP)(name:ah)(h:∀x∈l,x.1≠name):iO l name=l:=by
 unfold iO;rw[List.filter_eq_self];intro x hx
 simpa using h x hx
theorem Dv(l:List bP)(h:qI l)(name:ah):totalBytes (iO l name)+(fZ l name).size=totalBytes l:=by
 by_cases hp:iW l name=-1
 ·rw[Hq l name hp,Ba l name (Eg l name hp)];rfl
 obtain⟨a,b,old,rfl,_⟩:=Fv l name name hp;obtain⟨ha,hb,hab⟩:=mO.1 h;rw[JY a b name old h]
 have e:iO (a++(name,old)::b) name=a++b:=by
  unfold iO;rw[xP,List.filter_cons,aA eB];have h1:=Ba a name (fun x hx=>hab x hx _ (aQ ..));have h2:=Ba b name (fun x hx e=>(oP.1 hb).1 x hx e.symm);unfold iO at h1 h2;rw[h1,h2]
 rw[e,pI,pI,yo]
 simp only
 omega
theorem adw(l:List bP):∀x∈l,x.2.size<=totalBytes l:=by
 induction l with
 |nil=>intro x hx;cases hx
 |cons y r ih=>
  intro x hx;rw[yo]
  rcases bg.1 hx with rfl|hx
  ·omega
  have:=ih x hx;omega
theorem Od(l:List bP)(i:Nat):(jY l i).2.size<=totalBytes l:=by
 unfold jY;rw[dx]
 cases h:l[i]? with
 |none=>exact aS _
 |some x=>exact adw l x (aU h)
theorem pV(l:List bP)(name:ah):(fZ l name).size<=totalBytes l:=by
 unfold fZ
 split
 ·exact aS _
 exact Od l _
theorem Lr(l:List bP)(name data:ah):(xB l name data).length<=l.length+1:=by
 by_cases hp:iW l name=-1
 ·obtain⟨a,b,rfl,h2,_,_⟩:=Jr l name data hp;rw[h2];simp;omega
 obtain⟨a,b,old,rfl,h2⟩:=Fv l name data hp;rw[h2];simp
theorem JN(l:List bP)(o:lG):(fC l o).length<=l.length+1:=by
 unfold fC
 split
 ·exact Lr _ _ _
 split
 ·exact Lr _ _ _
 split
 ·exact aC (Lr _ _ _) (Nat.succ_le_succ (IA _ _))
 exact Nat.le_succ_of_le (IA _ _)
def sF(l:List bP):Prop:=∀x,x∈l->x.1.size<=65536
theorem sF.put(h:sF l)(name data:ah)(hn:name.size<=65536):sF (xB l name data):=by
 by_cases hp:iW l name=-1
 ·obtain⟨a,b,rfl,h2,_,_⟩:=Jr l name data hp;rw[h2];intro x hx
  rcases bQ.1 hx with hx|hx
  ·exact h x (fD _ hx)
  rcases bg.1 hx with rfl|hx
  ·exact hn
  exact h x (lV _ hx)
 obtain⟨a,b,old,rfl,h2⟩:=Fv l name data hp;rw[h2];intro x hx
 rcases bQ.1 hx with hx|hx
 ·exact h x (fD _ hx)
 rcases bg.1 hx with rfl|hx
 ·exact hn
 exact h x (lV _ (aZ _ hx))
theorem sF.without(h:sF l)(name:ah):sF (iO l name):=fun x hx=>h x (Mx.1 hx).1
theorem sF.apply(h:sF l)(o:lG)(hn:o.name.size<=65536)(hd:o.kind=3->o.data.size<=65536):sF (fC l o):=by
 unfold fC
 split
 ·exact h.put _ _ hn
 split
 ·exact h.put _ _ hn
 split
 ·rename_i h3;exact(h.without _).put _ _ (hd h3)
 exact h.without _
structure JK(l:List bP)(o:lG):Prop where
 kind:1<=o.kind/\o.kind<=4
 three:o.kind=3->iW l o.name≠-1
 data:o.data.size<=65536
 name:o.name.size<=32
structure rY(c:Nat)(r:bY)(d:dX):Prop where
 room:d.room=r.room
 lo:0<=r.room
 hi:r.room<=65536
 down:d.down=r.down
 Ea:r.left<=9223372036854775807
 fuse:(r.lit=true/\-(c:Int)<=r.left/\((0<r.left/\d.fuse=r.left)\/(r.left<=0/\d.fuse=0/\r.down=true)))\/(r.lit=false/\d.fuse=0)
 kept:∀j,j<=r.wait.length->qg (jr r j)/\totalBytes (jr r j)<=65536
 seen:jr r r.wait.length=r.seen
 ops:∀j,j<r.wait.length->JK (jr r j) (iD r.wait j)
 count:r.safe.length+r.wait.length<=c
 names:∀j,j<=r.wait.length->sF (jr r j)
variable {c:Nat}{r:bY}{d:dX}
theorem rY.later{c':Nat}(h:rY c r d)(hc:c<=c'):rY c' r d:=
 ⟨h.room,h.lo,h.hi,h.down,h.Ea,by rcases h.fuse with ⟨a,b,e⟩|e;exact aK ⟨a,aJ,e⟩;exact aP e,h.kept,h.seen,h.ops,aC h.count hc,h.names⟩
theorem rY.Kq(h:rY c r d):d.fuse<=9223372036854775807:=by
 have:=h.Ea
 rcases h.fuse with ⟨_,_,⟨_,e⟩|⟨_,e,_⟩⟩|⟨_,e⟩<;>omega
theorem Oo(r:bY):∀j,(jr r j).length<=r.safe.length+j:=by
 intro j
 induction j with
 |zero=>exact ai _
 |succ j ih=>rw[jr];exact aC (JN _ _) aJ
theorem rY.Js(h:rY c r d):r.seen.length<=c:=by
 rw[<-h.seen];exact aC (Oo r _) h.count
theorem rY.sorted(h:rY c r d):qg r.seen:=by
 have:=(h.kept _ (ai _)).1;rw[h.seen] at this;exact this
theorem rY.total(h:rY c r d):totalBytes r.seen<=65536:=by
 have:=(h.kept _ (ai _)).2;rw[h.seen] at this;exact this
theorem rY.Cx(h:rY c r d):sF r.seen:=by
 have:=h.names _ (ai _);rw[h.seen] at this;exact this
theorem Aw{r':bY}(hs:r'.safe=r.safe):∀j,(∀i,i<j->iD r'.wait i=iD r.wait i)->jr r' j=jr r j:=by
 intro j
 induction j with
 |zero=>intro _;exact hs
 |succ j ih=>
  intro h;rw[jr,jr,ih (fun i hi=>h i aJ),h j aJ]
theorem xJ(d:bY):(nL d).safe=d.safe:=by unfold nL;split<;>rfl
theorem Gw(d:bY):(nL d).room=d.room:=by unfold nL;split<;>rfl
theorem VD(d:dX):(gY d).room=d.room:=by unfold gY;split<;>rfl
theorem rY.ahX(h:rY c r d):rY (c+1) (nL r) (gY d):=by
 have hk:∀j,jr (nL r) j=jr r j:=fun j=>Aw (xJ r) j (fun i _=>by rw[kN])
 have hdn:(gY d).down=(nL r).down/\(nL r).left<=9223372036854775807/\(((nL r).lit=true/\-((c+1:Nat):Int)<=(nL r).left/\((0<(nL r).left/\(gY d).fuse=(nL r).left)\/((nL r).left<=0/\(gY d).fuse=0/\(nL r).down=true)))\/((nL r).lit=false/\(gY d).fuse=0)):=by
  have h1:=h.down;have h2:=h.Ea;have h3:=h.fuse;unfold nL gY
  rcases h3 with ⟨hl,hlo,⟨hp,hf⟩|⟨hp,hf,hd⟩⟩|⟨hl,hf⟩
  ·rw[aH hl,aH (show 0<d.fuse by omega)]
   simp only
   by_cases hz:r.left-1<=0
   ·have e1:d.fuse-1=0:=aJ
    refine⟨by simp[hz,e1],aJ,aK ⟨hl,aJ,aP ⟨hz,e1,by simp[hz]⟩⟩⟩
   have e1:¬d.fuse-1=0:=aJ
   refine⟨by simp[hz,e1,h1],aJ,aK ⟨hl,aJ,aK ⟨aJ,aJ⟩⟩⟩
  ·rw[aH hl,aA (show¬0<d.fuse by omega)]
   simp only
   refine⟨by rw[h1,hd];simp,aJ,aK ⟨hl,aJ,aP ⟨aJ,hf,by simp[hd]⟩⟩⟩
  rw[aA (show¬r.lit=true by simp[hl]),aA (show¬0<d.fuse by omega)];exact⟨h1,h2,aP ⟨hl,hf⟩⟩
 refine⟨by rw[VD,Gw];exact h.room,by rw[Gw];exact h.lo,by rw[Gw];exact h.hi,hdn.1,hdn.2.1,hdn.2.2,?_,?_,?_,?_,?_⟩
 ·rw[kN];intro j hj;rw[hk];exact h.kept j hj
 ·rw[kN,sV,hk];exact h.seen
 ·rw[kN];intro j hj;rw[hk];exact h.ops j hj
 ·rw[kN,xJ];have:=h.count;omega
 rw[kN];intro j hj;rw[hk];exact h.names j hj
theorem rY.more(h:rY c r d)(hc:r.safe.length+r.wait.length+1<=c)(o:lG)(ho:JK r.seen o)(ht:totalBytes (fC r.seen o)<=65536):rY c {r with seen:=fC r.seen o,wait:=r.wait++[o]} d:=by
 have hw:∀i,i<r.wait.length->iD (r.wait++[o]) i=iD r.wait i:=fun i hi=>by rw[iD,iD,bW hi]
 have hk:∀j,j<=r.wait.length->jr {r with seen:=fC r.seen o,wait:=r.wait++[o]} j=jr r j:=fun j hj=>Aw rFL j (fun i hi=>hw i aJ)
 have hlast:jr {r with seen:=fC r.seen o,wait:=r.wait++[o]} (r.wait.length+1)=fC r.seen o:=by
  rw[jr,hk _ (ai _),h.seen]
  simp[iD]
 refine⟨h.room,h.lo,h.hi,h.down,h.Ea,h.fuse,?_,?_,?_,?_,?_⟩
 ·intro j hj;simp only[aI,tX] at hj
  rcases bX r.wait.length j with c1|c1
  ·obtain rfl:j=r.wait.length+1:=aJ
   rw[hlast];exact⟨h.sorted.apply o,ht⟩
  rw[hk j c1];exact h.kept j c1
 ·simp only[aI,tX];exact hlast
 ·intro j hj;simp only[aI,tX] at hj
  rcases bX j r.wait.length with c1|c1
  ·rw[hk j aJ];simp only[hw j c1];exact h.ops j c1
  obtain rfl:j=r.wait.length:=aJ
  rw[hk _ (ai _),h.seen]
  simpa[iD] using ho
 ·simp only[aI,tX];omega
 intro j hj;simp only[aI,tX] at hj
 rcases bX r.wait.length j with c1|c1
 ·obtain rfl:j=r.wait.length+1:=aJ
  rw[hlast];exact h.Cx.apply o (by have:=ho.name;omega) (fun _=>ho.data)
 rw[hk j c1];exact h.names j c1
theorem rY.do(h:rY c r d)(o:lG)(ho:JK r.seen o)(ht:totalBytes (fC r.seen o)<=65536):
  ((gY d).down=true/\Vh r o=(4,nL r)/\rY (c+1) (nL r) (gY d))\/((gY d).down=false/\(Vh r o).1=0/\(Vh r o).2.seen=fC r.seen o/\(Vh r o).2.wait=r.wait++[o]/\(Vh r o).2.safe=r.safe/\rY (c+1) (Vh r o).2 (gY d)):=by
 have hb:=h.ahX
 by_cases hd:(nL r).down=true
 ·left
  exact⟨by rw[hb.down];exact hd,by rw[Vh,aH hd],hb⟩
 right
 have e:Vh r o=(0,{nL r with seen:=fC (nL r).seen o,wait:=(nL r).wait++[o]}):=by rw[Vh,aA hd]
 rw[e];refine⟨by rw[hb.down];simpa using hd,rfl,by rw[sV],by rw[kN],xJ r,hb.more (by rw[xJ,kN];have:=h.count;omega) o (by rw[sV];exact ho) (by rw[sV];exact ht)⟩
theorem rY.fresh(c:Nat)(n:Int):rY c ⟨[],[],min (max n 0) 65536,[],0,false,false⟩ ⟨min (max n 0) 65536,0,false⟩:=
 ⟨rfl,by simp only;omega,by simp only;omega,rfl,by simp only;omega,aP ⟨rfl,rfl⟩,fun j hj=>(by obtain rfl:j=0:=(by simpa using hj);exact⟨List.Pairwise.nil,by simp[jr,totalBytes,goneBytes]⟩),rfl,fun j hj=>by simp at hj,eB,fun j hj x hx=>by
  obtain rfl:j=0:=by simpa using hj
  simp[jr] at hx⟩
theorem rY.setFuse(h:rY c r d)(n:Int)(hn:n<=9223372036854775807):rY c {r with lit:=decide (0<n),left:=n} {d with fuse:=max n 0}:=by
 have hk:∀j,jr {r with lit:=decide (0<n),left:=n} j=jr r j:=fun j=>Aw rFL j (fun _ _=>rfl)
 refine⟨h.room,h.lo,h.hi,h.down,hn,?_,fun j hj=>by rw[hk];exact h.kept j hj,by rw[hk];exact h.seen,fun j hj=>by rw[hk];exact h.ops j hj,h.count,fun j hj=>by rw[hk];exact h.names j hj⟩
 by_cases c1:0<n
 ·exact aK ⟨by simp[c1],by simp only;omega,aK ⟨c1,by simp only;omega⟩⟩
 exact aP ⟨by simp[c1],by simp only;omega⟩
theorem rY.setRoom(h:rY c r d)(n:Int):rY c {r with room:=min (max n 0) 65536} {d with room:=min (max n 0) 65536}:=by
 have hk:∀j,jr {r with room:=min (max n 0) 65536} j=jr r j:=fun j=>Aw rFL j (fun _ _=>rfl)
 exact⟨rfl,by simp only;omega,by simp only;omega,h.down,h.Ea,h.fuse,fun j hj=>by rw[hk];exact h.kept j hj,by rw[hk];exact h.seen,fun j hj=>by rw[hk];exact h.ops j hj,h.count,fun j hj=>by rw[hk];exact h.names j hj⟩
theorem rY.safely(h:rY c r d)(L:List bP)(hs:qg L)(ht:totalBytes L<=65536)(hl:L.length<=c)(hn:sF L):rY c {r with safe:=L,seen:=L,wait:=[]} d:=
 ⟨h.room,h.lo,h.hi,h.down,h.Ea,h.fuse,fun j hj=>by
  obtain rfl:j=0:=by simpa using hj
  exact⟨hs,ht⟩,rfl,fun j hj=>by simp at hj,by simpa using hl,fun j hj=>by
  obtain rfl:j=0:=by simpa using hj
  exact hn⟩
theorem rY.sync(h:rY c r d):
  ((gY d).down=true/\iX r=(4,nL r)/\rY (c+1) (nL r) (gY d))\/((gY d).down=false/\(iX r).1=0/\(iX r).2.seen=r.seen/\(iX r).2.safe=r.seen/\(iX r).2.wait=[]/\rY (c+1) (iX r).2 (gY d)):=by
 have hb:=h.ahX
 by_cases hd:(nL r).down=true
 ·left
  exact⟨by rw[hb.down];exact hd,by rw[iX,aH hd],hb⟩
 right
 have e:iX r=(0,{nL r with safe:=(nL r).seen,wait:=[]}):=by rw[iX,aA hd]
 rw[e];refine⟨by rw[hb.down];simpa using hd,rfl,sV r,sV r,rfl,?_⟩;exact hb.safely (nL r).seen hb.sorted hb.total hb.Js hb.Cx
theorem YS(l:List bP)(h:qI l)(o:lG)(cut:Int)(hk:1<=o.kind/\o.kind<=2):totalBytes (fC l (MV o cut))<=totalBytes (fC l o):=by
 unfold MV
 split
 ·rename_i hc
  have hx:(o.data.extract 0 cut.toNat).size<=o.data.size:=by simp[aM];omega
  rcases (show o.kind=1\/o.kind=2 by omega) with e|e
  ·rw[fC,fC,aH e,aH e];have h1:=vC l h o.name (o.data.extract 0 cut.toNat);have h2:=vC l h o.name o.data
   simp only
   omega
  rw[fC,fC,aA (by simp only;omega),aH e,aA aJ,aH e];have h1:=vC l h o.name (fZ l o.name++o.data.extract 0 cut.toNat);have h2:=vC l h o.name (fZ l o.name++o.data);simp only[aL] at*;omega
 exact ai _
theorem rY.ahZ(h:rY c r d)(keep cut:Int):rY c (BN r keep cut) {d with fuse:=0,down:=false}/\(iP r keep cut).length<=c:=by
 have hkn:pu r keep<=r.wait.length:=Nat.min_le_left _ _
 have hnm:sF (iP r keep cut):=by
  unfold iP
  split
  ·rename_i hc
   have ho:=h.ops _ hc.1
   have e1:(MV (iD r.wait (pu r keep)) cut).name=(iD r.wait (pu r keep)).name:=by unfold MV;split<;>rfl
   have e2:(MV (iD r.wait (pu r keep)) cut).kind=(iD r.wait (pu r keep)).kind:=by unfold MV;split<;>rfl
   exact(h.names _ hkn).apply _ (by rw[e1];have:=ho.name;omega) (fun h3=>by rw[e2] at h3;have:=hc.2.1;omega)
  exact h.names _ hkn
 have hkey:qg (iP r keep cut)/\totalBytes (iP r keep cut)<=65536/\(iP r keep cut).length<=c:=by
  unfold iP;have h1:=h.kept _ hkn;have h2:=Oo r (pu r keep);have h3:=h.count
  split
  ·rename_i hc
   have h4:=h.kept (pu r keep+1) aJ;refine⟨h1.1.apply _,?_,by have:=JN (jr r (pu r keep)) (MV (iD r.wait (pu r keep)) cut);omega⟩;have:=YS (jr r (pu r keep)) h1.1.distinct (iD r.wait (pu r keep)) cut ⟨(h.ops _ hc.1).kind.1,hc.2.1⟩;exact aC this h4.2
  exact⟨h1.1,h1.2,aJ⟩
 refine⟨?_,hkey.2.2⟩
 exact⟨h.room,h.lo,h.hi,rfl,h.Ea,aP ⟨rfl,rfl⟩,fun j hj=>by
  obtain rfl:j=0:=by simpa[BN] using hj
  exact⟨hkey.1,hkey.2.1⟩,rfl,fun j hj=>by simp[BN] at hj,by simpa[BN] using hkey.2.2,fun j hj=>by
  obtain rfl:j=0:=by simpa[BN] using hj
  exact hnm⟩
def Il(l:List bP)(name:ah)(vN:Value):Value×Value:=if decide (iW l name≠-1)=true then (.string (fZ l name),.nilIface) else (.string ⟨#[]⟩,vN)
theorem QS(name:ah)(hn:name.size<=maxLen)(l:List bP)(vN:Value)(d:dX)(fb:Nat)(nb sb n:Nat)(sv:Value)(w:ak)(h:bH w fb d 0 nb sb sv)(hm:dF w nb n l)(hnb:nb≠fb)
  (hv:w.cell? ⟨1,0,none⟩=some vN) (hg:1≠fb):
  Calls Tryz.prog 45 #[.pointer (some ⟨fb,0,none⟩),.string name] w fun e w'=>e=.returned (.tuple #[(Il l name vN).1,(Il l name vN).2])/\bH w' fb d 0 nb sb sv/\aW (fun k=>k=fb) w w':=by
 have HR1:=aV (h.setLock 1);have HT1:Hid (aW (fun k=>k=fb) w (w.setCell ⟨fb,0,none⟩ (.int .i32 1))):=(aW.refl _ w).setCell ⟨fb,0,none⟩ _ (aK rfl);have HM1:Hid (dF (w.setCell ⟨fb,0,none⟩ (.int .i32 1)) nb n l):=hm.keep (au _ _ _ _ hnb)
 have HV1:Hid ((w.setCell ⟨fb,0,none⟩ (.int .i32 1)).cell? ⟨1,0,none⟩=some vN):=by
  show _=_;rw[aF (w:=w) (a:=⟨1,0,none⟩) (au _ _ _ _ hg)];exact hv
 have h0:w.cell? ⟨fb,0,none⟩=some (.int .i32 0):=by rw[aj _ _ _ _ _ _ h];rfl
 have f0:w.frozen? ⟨fb,0,none⟩=false:=aD _ _ _ _ _ h;clear h hm hv
 go_enter_defers Tryz.func45,Tryz.ntmps45
 go_wp2_with (go_at_call 58;refine(lock_free ku ⟨fb,0,none⟩ _ h0 f0).mono ?_;rintro e w1 ⟨rfl,rfl⟩;refine dO ?_)
 clear h0 f0;generalize w.setCell ⟨fb,0,none⟩ (.int .i32 1)=w2 at*
 have c3:w2.cell? ⟨fb,3,none⟩=some (.map (some nb)):=by rw[aj _ _ _ _ _ _ HR1.out];rfl
 have hl:=HM1.out.look_ok name hn;obtain⟨dt,hdt⟩:∃dt,dt=fZ l name:=⟨_,rfl⟩;have HDT:=aV hdt.symm;rw[<-hdt] at hl;clear hdt
 have hv1:∀o,(w2.alloc o).cell? ⟨1,0,none⟩=some vN:=fun o=>by rw[bU _ _ ⟨1,0,none⟩ (aG HV1.out)];exact HV1.out
 have HR2:Hid (bH (w2.alloc (.cells #[.string dt] 117)) fb d 1 nb sb sv):=by
  show _=_;rw[bC _ _ _ HR1.out.lt];exact HR1.out
 have HT2:Hid (aW (fun k=>k=fb) w (w2.alloc (.cells #[.string dt] 117))):=HT1.out.trans (aW.of_below (fun k=>k=fb) ((ay _ _).alloc (ai _) _)) (fun i hi=>aK hi)
 by_cases hp:decide (iW l name≠-1)=true
 ·rw[hp] at hl
  have HP:Hid (Il l name vN=(.string dt,.nilIface)):=by show _=_;rw[Il,aH hp,HDT.out]
  clear hp HDT;unfold Hid
  go_wp2
  generalize w2.alloc (.cells #[.string dt] 117)=w3 at*;refine fA (f:=59) (args:=#[.pointer (some ⟨fb,0,none⟩)]) eB FE ?_;refine(unlock_deferred ku ⟨fb,0,none⟩ .returning _ ?_ ?_).mono ?_;(rw[aj _ _ _ _ _ _ HR2.out];rfl);(exact aD _ _ _ _ _ HR2.out);rintro e u' w'' ⟨rfl,rfl,rfl⟩;exact⟨_,results_tmp2 rfl _ _ _,by rw[HP.out];rfl,HR2.out.setLock 0,HT2.out.setCell ⟨fb,0,none⟩ _ (aK rfl)⟩
 have hp2:decide (iW l name≠-1)=false:=by simpa using hp
 rw[hp2] at hl
 have HP:Hid (Il l name vN=(.string ⟨#[]⟩,vN)):=by show _=_;rw[Il,aA hp]
 clear hp hp2 HDT;unfold Hid
 go_wp2_with fail
 have hv2:=hv1 (.cells #[.string dt] 117);clear hv1 HV1;generalize w2.alloc (.cells #[.string dt] 117)=w4 at*
 go_quiet (fail)
 have HR2:Hid (bH (w4.drewN nq) fb d 1 nb sb sv):=HR2.out;have HT2:Hid (aW (fun k=>k=fb) w (w4.drewN nq)):=⟨HT2.out.os,HT2.out.output,HT2.out.size,HT2.out.block⟩;generalize w4.drewN nq=w3 at*
 go_wp2
 refine fA (f:=59) (args:=#[.pointer (some ⟨fb,0,none⟩)]) eB FE ?_;refine(unlock_deferred ku ⟨fb,0,none⟩ .returning _ ?_ ?_).mono ?_;(rw[aj _ _ _ _ _ _ HR2.out];rfl);(exact aD _ _ _ _ _ HR2.out);rintro e u' w'' ⟨rfl,rfl,rfl⟩;exact⟨_,results_tmp2 rfl _ _ _,by rw[HP.out];rfl,HR2.out.setLock 0,HT2.out.setCell ⟨fb,0,none⟩ _ (aK rfl)⟩
theorem yM{ops:Array Oper}{a:Act}{w:ak}{K:Act->ak->Prop}{Q:Exit->Act->ak->Prop}{E:Prop}(hg:o.guard=none)(m x:Operand)
  (hop:o.op=Op.call {callee:=Callee.builtin Builtin.delete,args:=#[m,x],argTypes:=#[85,9]}) (b n:Nat) (l:List bP) (name:ah) (hn:name.size<=maxLen)
  (hm:a.eval m=.map (some b)) (hx:a.eval x=.string name) (h:dF w b n l)
  (hK:∀w',dF w' b n (iO l name)->w.grownBy w' (some b)->K (a.put o.dst (.tuple #[])) w'):
  if Region.wanted o (yielded ops a.tmps)=true then Oper.wp Tryz.prog o a w K Q else E:=by
 have hw:Region.wanted o (yielded ops a.tmps)=true:=by simp[Region.wanted,hg]
 rw[aH hw];obtain⟨w',hrun,h1,h2⟩:=h.drop name hn o.type;unfold Oper.wp
 simp[execOp,hop,resolve,invoke,builtin,hm,hx,hrun,Result.andThen]
 exact hK w' h1 h2
theorem Kc(dt:ah)(w:ak):(Instr.field 117 (.agg #[.string dt]) 0).run Tryz.prog w=.ok (.string dt) w:=dD
theorem Sk(name part:ah)(hn:name.size<=maxLen)(l:List bP)(d:dX)(fb:Nat)(lk:Int)(nb sb n:Nat)(sv:Value)(bf bn:Nat)(w:ak)(h:bH w fb d lk nb sb sv)(hm:dF w nb n l)(hroom:n<maxLen)
  (b0:w.cell? ⟨bf,0,none⟩=some (.pointer (some ⟨fb,0,none⟩))) (b1:w.cell? ⟨bn,0,none⟩=some (.string name)):
  Calls Tryz.prog 76 #[.string part,.pointer (some ⟨bf,0,none⟩),.pointer (some ⟨bn,0,none⟩)] w fun e w'=>e=.returned (.tuple #[])/\dF w' nb (n+1) (xB l name part)/\aW (fun k=>k=nb) w w':=by
 have c3:w.cell? ⟨fb,3,none⟩=some (.map (some nb)):=by rw[aj _ _ _ _ _ _ h];rfl
 obtain⟨w1,hst,hm1,hg1⟩:=(show dF w.drew nb n l from hm.keep rfl).store hroom name part hn;have HX:Hid (dF w1 nb (n+1) (xB l name part)/\aW (fun k=>k=nb) w w1):=⟨hm1,⟨hg1.os,hg1.output,hg1.size,fun k hk hn=>hg1.block k hk (fun e=>hn (ax e))⟩⟩;clear h hm hm1 hg1
 go_enter Tryz.func76,Tryz.ntmps76
 go_wp2
 go_region
 all_goals
  go_wp2
  go_end0
  exact⟨rfl,HX.out.1,HX.out.2⟩
theorem Qf(name part:ah)(hn:name.size<=maxLen)(l:List bP)(hp:part.size<=1099511627776)(hdt:(fZ l name).size<=1099511627776)(d:dX)(fb:Nat)(lk:Int)(nb sb n:Nat)(sv:Value)(bf bn:Nat)(w:ak)(h:bH w fb d lk nb sb sv)(hm:dF w nb n l)(hroom:n<maxLen)
  (b0:w.cell? ⟨bf,0,none⟩=some (.pointer (some ⟨fb,0,none⟩))) (b1:w.cell? ⟨bn,0,none⟩=some (.string name)):
  Calls Tryz.prog 303 #[.string part,.pointer (some ⟨bf,0,none⟩),.pointer (some ⟨bn,0,none⟩)] w fun e w'=>e=.returned (.tuple #[])/\dF w' nb (n+1) (xB l name (fZ l name++part))/\aW (fun k=>k=nb) w w':=by
 have c3:w.cell? ⟨fb,3,none⟩=some (.map (some nb)):=by rw[aj _ _ _ _ _ _ h];rfl
 have hl:=(show dF w.drew nb n l from hm.keep rfl).look name hn;obtain⟨w1,hst,hm1,hg1⟩:=(show dF w.drew nb n l from hm.keep rfl).store hroom name (fZ l name++part) hn;have HX:Hid (dF w1 nb (n+1) (xB l name (fZ l name++part))/\aW (fun k=>k=nb) w w1):=⟨hm1,⟨hg1.os,hg1.output,hg1.size,fun k hk hn=>hg1.block k hk (fun e=>hn (ax e))⟩⟩;clear h hm hm1 hg1;generalize fZ l name=dt at*;have hfd:=Kc dt w.drew
 go_enter Tryz.func303,Tryz.ntmps303
 go_wp2
 go_region
 all_goals
  go_wp2
  go_end0
  exact⟨rfl,HX.out.1,HX.out.2⟩
theorem Qg(name part:ah)(hn:name.size<=maxLen)(l:List bP)(d:dX)(fb:Nat)(lk:Int)(nb sb n:Nat)(sv:Value)(bf bn:Nat)(w:ak)(h:bH w fb d lk nb sb sv)(hm:dF w nb n l)
  (b0:w.cell? ⟨bf,0,none⟩=some (.pointer (some ⟨fb,0,none⟩))) (b1:w.cell? ⟨bn,0,none⟩=some (.string name)):
  Calls Tryz.prog 126 #[.string part,.pointer (some ⟨bf,0,none⟩),.pointer (some ⟨bn,0,none⟩)] w fun e w'=>e=.returned (.tuple #[])/\dF w' nb n (iO l name)/\aW (fun k=>k=nb) w w':=by
 have c3:w.cell? ⟨fb,3,none⟩=some (.map (some nb)):=by rw[aj _ _ _ _ _ _ h];rfl
 have HM:=aV hm;clear h hm
 go_enter Tryz.func126,Tryz.ntmps126
 go_wp2_with fail
 go_region_law (refine yM rfl _ _ rfl nb n l name hn rfl rfl ?_ ?_;exact HM.out.keep rfl;intro w1 hm1 hg1)
 all_goals
  have HX:Hid (dF w1 nb n (iO l name)/\aW (fun k=>k=nb) w w1):=⟨hm1,⟨hg1.os,hg1.output,hg1.size,fun k hk hn=>hg1.block k hk (fun e=>hn (ax e))⟩⟩;clear hm1 hg1
  go_wp2
  go_end0
  exact⟨rfl,HX.out.1,HX.out.2⟩
theorem Qh(frm aqB part:ah)(hn:frm.size<=maxLen)(hn2:aqB.size<=maxLen)(l:List bP)(d:dX)(fb:Nat)(lk:Int)(nb sb n:Nat)(sv:Value)(bf bn bt:Nat)(w:ak)(h:bH w fb d lk nb sb sv)(hm:dF w nb n l)(hroom:n<maxLen)(hne:fb≠nb/\bf≠nb/\bn≠nb/\bt≠nb)
  (b0:w.cell? ⟨bf,0,none⟩=some (.pointer (some ⟨fb,0,none⟩))) (b1:w.cell? ⟨bn,0,none⟩=some (.string frm)) (b2:w.cell? ⟨bt,0,none⟩=some (.string aqB)):
  Calls Tryz.prog 252 #[.string part,.pointer (some ⟨bf,0,none⟩),.pointer (some ⟨bn,0,none⟩),.pointer (some ⟨bt,0,none⟩)] w fun e w'=>e=.returned (.tuple #[])/\dF w' nb (n+1) (xB (iO l frm) aqB (fZ l frm))/\aW (fun k=>k=nb) w w':=by
 have c3:w.cell? ⟨fb,3,none⟩=some (.map (some nb)):=by rw[aj _ _ _ _ _ _ h];rfl
 have hl:=(show dF w.drew nb n l from hm.keep rfl).look frm hn;have hl2:=(show dF (w.alloc (.cells #[.string ⟨#[]⟩] 117)).drew nb n l from hm.keep (bC w _ nb hm.lt)).look frm hn
 have hcz:∀(p:Addr) (v:Value),w.cell? p=some v->(w.alloc (.cells #[.string ⟨#[]⟩] 117)).drew.cell? p=some v:=fun p v hp=>by
  have:=bU w (.cells #[.string ⟨#[]⟩] 117) p (aG hp);exact this.trans hp
 have c3z:=hcz _ _ c3;have b0z:=hcz _ _ b0;have b1z:=hcz _ _ b1;have HM:=aV hm;have hnb:=hm.lt;clear h hm hcz;generalize fZ l frm=dt at*
 go_enter Tryz.func252,Tryz.ntmps252
 go_wp2_with fail
 go_region
 all_goals
  have HM0:Hid (dF (w.alloc (.cells #[.string dt] 117)).drew nb n l):=HM.out.keep (bC w _ nb hnb);have HT0:Hid (aW (fun k=>k=nb) w (w.alloc (.cells #[.string dt] 117)).drew):=⟨rfl,rfl,by simp[World.drew],fun k hk _=>bC w _ k hk⟩
  have hcell:∀(p:Addr) (v:Value),w.cell? p=some v->(w.alloc (.cells #[.string dt] 117)).drew.cell? p=some v:=fun p v hp=>(bU w (.cells #[.string dt] 117) p (aG hp)).trans hp
  have c3':=hcell _ _ c3;have b0':=hcell _ _ b0;have b1':=hcell _ _ b1;have b2':=hcell _ _ b2
  have hwas:(w.alloc (.cells #[.string dt] 117)).drew.cell? ⟨w.heap.size,0,none⟩=some (.string dt):=by
   have h1:(w.alloc (.cells #[.string dt] 117)).cell? ⟨w.heap.size,0,none⟩=some (.string dt):=by rw[aj _ _ _ _ _ _ (bq w _ _ rfl)];rfl
   exact h1
  have hnw:w.heap.size≠nb:=aJ
  clear hcell c3 b0 b1 b2 c3z b0z b1z hl hl2 HM;generalize (w.alloc (.cells #[.string dt] 117)).drew=W at*
  go_wp2_with fail
  go_region_law (refine yM rfl _ _ rfl nb n l frm hn rfl rfl ?_ ?_;exact HM0.out.keep rfl;intro w1 hm1 hg1)
  all_goals
   have hc1:∀(p:Addr) (v:Value),W.cell? p=some v->p.block≠nb->w1.cell? p=some v:=fun p v hp hb=>by
    rw[aF (w:=W) (hg1.block p.block (aG hp) (fun e=>hb (ax e)))];exact hp
   have c3:=hc1 _ _ c3' hne.1;have b0:=hc1 _ _ b0' hne.2.1;have b1:=hc1 _ _ b1' hne.2.2.1;have b2:=hc1 _ _ b2' hne.2.2.2;have hws:=hc1 _ _ hwas hnw;have HT1:Hid (aW (fun k=>k=nb) w w1):=HT0.out.trans (G:=fun k=>k=nb) ⟨hg1.os,hg1.output,hg1.size,fun k hk hn=>hg1.block k hk (fun e=>hn (ax e))⟩ (fun i hi=>aK hi);obtain⟨w2,hst,hm2,hg2⟩:=(show dF w1.drew nb n (iO l frm) from hm1.keep rfl).store hroom aqB dt hn2;have HX:Hid (dF w2 nb (n+1) (xB (iO l frm) aqB dt)/\aW (fun k=>k=nb) w w2):=⟨hm2,HT1.out.trans (G:=fun k=>k=nb) ⟨hg2.os,hg2.output,hg2.size,fun k hk hn=>hg2.block k hk (fun e=>hn (ax e))⟩ (fun i hi=>aK hi)⟩;clear hc1 hg1 c3' b0' b1' b2' hwas hm1 hm2 hg2 HT1
   go_wp2_with fail
   go_region
   all_goals
    go_wp2
    go_end0
    exact⟨rfl,HX.out.1,HX.out.2⟩
theorem Uh(n:Int)(w:ak):
  Calls Tryz.prog 27 #[.int .i64 n] w fun e w'=>∃fb nb sb,e=.returned (.pointer (some ⟨fb,0,none⟩))/\bH w' fb ⟨min (max n 0) 65536,0,false⟩ 0 nb sb (.slice none 0 0)/\dF w' nb 0 []/\dF w' sb 0 []/\w.heap.size<=fb/\w.heap.size<=nb/\w.heap.size<=sb/\nb≠fb/\sb≠fb/\nb≠sb/\Below w.heap.size w w':=by
 have hmm:= @run_makeMap Tryz.prog
 go_enter Tryz.func27,Tryz.ntmps27
 go_wp2_with (go_at_call 48;refine(Mq n _).mono ?_;rintro e w2 ⟨rfl,rfl⟩)
 go_ret;have s1:(w2.alloc (.map #[] 0)).heap.size=w2.heap.size+1:=bO _ _
 have s2:((w2.alloc (.map #[] 0)).alloc (.map #[] 0)).heap.size=w2.heap.size+1+1:=by rw[bO,s1]
 have m2:dF ((w2.alloc (.map #[] 0)).alloc (.map #[] 0)) (w2.heap.size+1) 0 []:=by have:=dF.made (w2.alloc (.map #[] 0));rw[s1] at this;exact this
 have m1:dF ((w2.alloc (.map #[] 0)).alloc (.map #[] 0)) w2.heap.size 0 []:=(dF.made w2).keep (bC _ _ _ (by rw[s1];omega));refine⟨w2.heap.size+1+1,w2.heap.size,w2.heap.size+1,rfl,?_,m1.keep (bC _ _ _ m1.lt),m2.keep (bC _ _ _ m2.lt),aJ,aJ,aJ,aJ,aJ,aJ,(((ay _ _).alloc (ai _) _).alloc (by rw[s1];omega) _).alloc (by rw[s2];omega) _⟩;have h:(((w2.alloc (.map #[] 0)).alloc (.map #[] 0)).alloc (.cells #[.int .i32 0,.int .u32 0,.int .i64 (min (max n 0) 65536),.map (some w2.heap.size),.map (some (w2.heap.size+1)),.slice none 0 0,.int .i64 0,.bool false] 95)).heap[((w2.alloc (.map #[] 0)).alloc (.map #[] 0)).heap.size]?=some (.cells #[.int .i32 0,.int .u32 0,.int .i64 (min (max n 0) 65536),.map (some w2.heap.size),.map (some (w2.heap.size+1)),.slice none 0 0,.int .i64 0,.bool false] 95 (0,0)):=bq _ _ _ rfl;rw[s2] at h;exact h
end
end Go.Proofs.YthhbpebihgjpjaaGreatDoor
