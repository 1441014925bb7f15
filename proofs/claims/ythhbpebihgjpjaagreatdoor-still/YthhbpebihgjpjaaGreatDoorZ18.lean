import Derived.Test.YthhbpebihgjpjaaGreatDoorZ17
import Derived.Maps.RangeWalk
namespace Go.Proofs.YthhbpebihgjpjaaGreatDoor
set_option maxRecDepth 1000000
set_option maxHeartbeats 20000000
set_option linter.all false
section
open Go.RowKit Go.MuLone Go.Maps
def qE(l:List bL):Prop:=l.Pairwise (fun x y=>x.1≠y.1)
def goneBytes(left:Lit->Bool):List bL->Nat
 |[]=>0
 |x::r=>(if left (jF x.1)=true then 0 else x.2.size)+goneBytes left r
def totalBytes(l:List bL):Nat:=goneBytes (fun _=>false) l
theorem abI(a:ah):(jF a).sameKey (jF a)=true:=by simp[jF,Lit.sameKey]
variable {a b:ah}
theorem Oo(h:a≠b):(jF a).sameKey (jF b)=false:=sameKey_ne (fun e=>h (xU e))
theorem Zb(l:List bL)(name data:ah)(h:fM l name=some data):∃x∈l,x.1=name:=by
 induction l with
 |nil=>simp[fM] at h
 |cons y r ih=>
  by_cases e:y.1=name
  ·exact⟨y,by simp,e⟩
  rw[fM,ax e] at h;obtain⟨x,hx,he⟩:=ih h;exact⟨x,by simp[hx],he⟩
theorem EO(l:List bL)(name:ah)(h:∀x∈l,x.1≠name):fM l name=none:=by
 induction l with
 |nil=>rfl
 |cons y r ih=>rw[fM,ax (h y (by simp)),ih (fun x hx=>h x (by simp[hx]))]
theorem Zg(left:Lit->Bool)(name:ah):∀l:List bL,(∀x∈l,x.1≠name)->goneBytes (fun z=>left z&&!z.sameKey (jF name)) l=goneBytes left l:=by
 intro l
 induction l with
 |nil=>intro _;rfl
 |cons y r ih=>
  intro h;simp only[goneBytes];rw[ih (fun x hx=>h x (by simp[hx]))]
  simp[Oo (h y (by simp))]
theorem SE(left:Lit->Bool)(name data:ah)(hl:left (jF name)=true):∀l:List bL,qE l->fM l name=some data->goneBytes (fun z=>left z&&!z.sameKey (jF name)) l=goneBytes left l+data.size:=by
 intro l
 induction l with
 |nil=>intro _ h;simp[fM] at h
 |cons y r ih=>
  intro hd h;have hp:=oO.1 hd
  by_cases e:y.1=name
  ·rw[fM,aD e] at h;have h2:y.2=data:=ak h;simp only[goneBytes];rw[Zg left name r (fun x hx hh=>hp.1 x hx (e.trans hh.symm))]
   simp[e,hl,abI,h2];omega
  rw[fM,ax e] at h;simp only[goneBytes];rw[ih hp.2 h]
  simp[Oo e];omega
theorem Zf(left:Lit->Bool):∀l:List bL,(∀x∈l,left (jF x.1)=true)->goneBytes left l=0:=by
 intro l
 induction l with
 |nil=>intro _;rfl
 |cons y r ih=>intro h;simp only[goneBytes];rw[ih (fun x hx=>h x (by simp[hx])),aD (h y (by simp))]
theorem abg(left:Lit->Bool)(h:∀kl,left kl=false)(l:List bL):goneBytes left l=totalBytes l:=by
 have:left=fun _=>false:=funext h
 rw[this];rfl
theorem ady(left:Lit->Bool):∀l:List bL,goneBytes left l<=totalBytes l:=by
 intro l
 induction l with
 |nil=>exact ai _
 |cons y r ih=>simp only[totalBytes,goneBytes] at*;split<;>simp<;>omega
theorem Kh(l:List bL):∀x∈l,(fM l x.1).isSome=true:=by
 induction l with
 |nil=>intro x hx;cases hx
 |cons y r ih=>
  intro x hx
  by_cases e:y.1=x.1
  ·simp[fM,e]
  rw[fM,ax e]
  rcases aV.1 hx with rfl|h
  ·exact absurd rfl e
  exact ih x h
theorem pE(l r:List bL):totalBytes (l++r)=totalBytes l+totalBytes r:=by
 induction l with
 |nil=>simp[totalBytes,goneBytes]
 |cons y l ih=>simp only[totalBytes,List.cons_append,goneBytes] at*;rw[ih];omega
theorem LZ(l:List bL)(n:Int):zT l n l.length=n+(totalBytes l:Int):=by
 have key:∀j,j<=l.length->zT l n j=n+(totalBytes (l.take j):Int):=by
  intro j
  induction j with
  |zero=>intro _;simp[zT,totalBytes,goneBytes]
  |succ j ih=>
   intro hj;rw[zT,ih (by omega),aaf l j _ (Co l j (by omega)),pE]
   simp[totalBytes,goneBytes];omega
 rw[key l.length (ai _),rf]
theorem zN{key:Value}{kl:Lit}(h:keyOf Tryz.prog 9 key=some kl):∃s:ah,key=.string s/\kl=jF s:=by
 obtain⟨s,e1,e2,_⟩:=WideMaps.string_of_keyOf Tryz.underlying9 h;exact⟨s,e1,e2⟩
variable {ops:Array Oper}{o:Oper}{Q:Exit->Act->aj->Prop}
theorem yR(w:aj){rest:List Oper}{a:Act}(hg:o.guard=none)(it:Operand)(hop:o.op=Op.next it false)
  (b r n:Nat) (D:DataW Unit) (left:Lit->Bool) (cnt:Nat) (hit:a.eval it=.pointer (some ⟨r,0,none⟩)) (h:w.ranges Tryz.prog 9 rJ b r n D left cnt)
  (hDone:cnt=0->(∀kl,left kl=false)->wpList Tryz.prog ops Q rest (a.put o.dst (.tuple #[.bool false])) w)
  (hMore:∀(x c:ah) (w':aj) (cnt':Nat),left (jF x)=true->(∀zd,D.atKey (jF x) zd=.lit (.string c.data.toList))->w'.ranges Tryz.prog 9 rJ b r n D (fun z=>left z&&!z.sameKey (jF x)) cnt'->cnt'<cnt->
    w.grownBy w' (some r)->w'.heap.size=w.heap.size->(Instr.entry (.pointer (some ⟨r,0,none⟩))).run Tryz.prog w'=.ok (.tuple #[.string x,.agg #[.string c]]) w'->wpList Tryz.prog ops Q rest (a.put o.dst (.tuple #[.bool true,.string x,.agg #[.string c]])) w'):
  wpList Tryz.prog ops Q (o::rest) a w:=
 wpList_next_ranges w hg it hop 9 Tv rJ Value.string (fun c=>Value.agg #[.string c]) (fun key kl hkey=>by obtain⟨s,e,_⟩:=zN hkey;exact⟨s,e⟩) (fun v y hv=>by obtain⟨s,e,_⟩:=Aq hv;exact⟨s,e⟩) b r n D left cnt hit h hDone
  (fun x c kl y w' cnt' hkey hlk hv hat hrg hlt hgr hsz hen=>by
    obtain⟨x',ex,rfl⟩:=zN hkey
    cases ex
    have h3:y.1=.lit (.string c.data.toList):=by
     have:=(ak hv).symm;rw[this]
    exact hMore x c w' cnt' hlk (fun zd=>(hat zd).trans h3) hrg hlt hgr hsz hen)
theorem NP(l:List bL)(hd:qE l)(ht:totalBytes l<=1152921504606846976)(d:dQ)(fb:Nat)(lk:Int)(nb sb n:Nat)(sv:Value)(w:aj)(h:bC w fb d lk nb sb sv)(hm:dw w nb n l):
  Calls Tryz.prog 74 #[.pointer (some ⟨fb,0,none⟩)] w fun e w'=>e=.returned (.int .i64 (totalBytes l))/\Below w.heap.size w w':=by
 have c3:w.cell? ⟨fb,3,none⟩=some (.map (some nb)):=by rw[bZ h];rfl
 obtain⟨D,hown,hh⟩:=hm;have HH:=aP hh;have HD:=aP hd;have hbl:=hown.lt;clear h hh hd
 go_enter Tryz.func74,Tryz.ntmps74
 go_wp2_with (first
  | (at_range;refine wpList_range_own _ rfl _ 85 rfl 9 117 Tv Tryz.underlying85 _ nb n _ rfl hown ?_;intro w0 hrg0 hg0 hs0)
  |go_in)
 go_frame
 clear c3
 go_loopw [3] (fun t wr=>∃(left:Lit->Bool) (cnt:Nat),wr.ranges Tryz.prog 9 rJ nb w.heap.size n D left cnt/\t=.int .i64 (goneBytes left l:Nat)/\Below w.heap.size w wr) (fun _ wr=>wr.rangeLeft nb w.heap.size)
 case atStart=>
  refine⟨_,_,hrg0,?_,(au _ _).grown hg0 (ai _) (fun j hj=>by cases hj)⟩;rw[Zf _ l (fun x hx=>by rw[HH.out.has];exact Kh l x hx)];rfl
 case round=>
  obtain⟨left,cnt,hrg,rfl,hnx⟩:=hrel
  go_wp2_with (first
   | (at_next;refine yR _ rfl _ rfl nb w.heap.size n _ _ _ rfl hrg ?_ ?_)
   |go_in)
  ·intro hc0 hl0;have HE:=aP (abg left hl0 l);clear hl0;generalize goneBytes left l=t at*
   go_wp2
   go_ret;exact⟨by rw[<-HE.out];rfl,hnx⟩
  intro x c w1 cnt1 hlk hat hrg1 hlt hg1 hs1 hen
  have hfx:fM l x=some c:=by
   have h1:(fM l x).isSome=true:=by rw[<-HH.out.has x];exact has_true_of_atKey hat
   obtain⟨c',hc'⟩:=fI.1 h1;have h2:=HH.out.at' x;rw[hat,hc'] at h2;injection h2 with h2;injection h2 with h2;rw[hc',ByteArray.ext (fD.1 h2)];rfl
  have HS:=aP (SE left x c hlk l HD.out hfx)
  have hle:goneBytes left l+c.size<=1152921504606846976:=by rw[<-HS.out];exact aA (ady _ l) ht
  have HR2:Hid ((w1.alloc (.cells #[.string c] 117)).ranges Tryz.prog 9 rJ nb w.heap.size n D (fun z=>left z&&!z.sameKey (jF x)) cnt1):=hrg1.alloc _;have HB2:Hid (Below w.heap.size w (w1.alloc (.cells #[.string c] 117))):=(hnx.grown hg1 hnx.size (fun j hj=>by cases hj;exact ai _)).alloc (by have:=hnx.size;omega) _;have HLT:=aP hlt;have HRG:=aP hrg;clear hfx hat hlk hrg1 hlt hg1 hs1 hrg hnx;generalize (fun z=>left z&&!z.sameKey (jF x))=left2 at*
  have ht2:((goneBytes left l:Nat):Int)+(c.size:Int)<=1152921504606846976:=by omega
  generalize goneBytes left l=t at*
  go_wp2
  go_roundw
  case rel=>
   first
    |exact⟨left2,cnt1,HR2.out,by rw[HS.out];go_num,HB2.out⟩
    | ((repeat apply Exists.intro);exact⟨⟨left2,cnt1,HR2.out,by rw[HS.out];go_num,HB2.out⟩,rfl⟩)
  case measure=>rw[HR2.out.left_eq,HRG.out.left_eq];exact HLT.out
theorem abO:∀(x y:List UInt8),Op.bytesLess x y=decide (x<y):=by
 intro x
 induction x with
 |nil=>intro y;cases y<;>simp[Op.bytesLess]
 |cons a x ih=>
  intro y
  cases y with
  |nil=>simp[Op.bytesLess]
  |cons b y=>
   rw[Op.bytesLess,ih y];simp only[List.cons_lt_cons_iff,Bool.decide_or,Bool.decide_and];rfl
theorem Gt(a b:ah):uw a b=true↔a.data.toList<b.data.toList:=by
 rw[uw,abO,dX,dX,kW]
theorem NQ(h:a.data.toList=b.data.toList):a=b:=by
 cases a;cases b;congr;exact Array.ext' h
theorem Tx{c:ah}(h:uw a b=true)(h2:uw b c=true):uw a c=true:=by
 rw[Gt] at*;exact List.lt_trans h h2
theorem Tw(h:¬uw a b=true)(hne:a≠b):uw b a=true:=by
 rw[Gt] at*
 rcases List.le_iff_lt_or_eq.1 (List.not_lt.1 h) with h2|h2
 ·exact h2
 exact absurd (NQ h2.symm) hne
def qb(l:List bL):Prop:=l.Pairwise (fun x y=>uw x.1 y.1=true)
variable {l:List bL}
theorem qb.distinct(h:qb l):qE l:=h.imp (fun h=>Ff h)
theorem Ke(p:List bL)(x:bL)(r:List bL):jU (p++x::r) p.length=x:=by simp[jU]
theorem YI(x:bL):∀(n:Nat) (p r:List bL),p.length=n->∃a b,p=a++b/\Gc (p++x::r) p.length=a++x::(b++r)/\(∀y∈b,uw x.1 y.1=true)/\(∀y q,a=q++[y]->¬uw x.1 y.1=true):=by
 intro n
 induction n with
 |zero=>
  intro p r hp;obtain rfl:p=[]:=mF hp;exact⟨[],[],rfl,rfl,fun y hy=>(by cases hy),fun y q e=>absurd e (by simp)⟩
 |succ n ih=>
  intro p r hp;obtain⟨q,y,rfl⟩:∃q y,p=q++[y]:=⟨p.dropLast,p.getLast (by intro e;subst e;cases hp),(Bv _).symm⟩
  have hq:q.length=n:=by simpa using hp
  have e1:jU (q++[y]++x::r) (q.length+1)=x:=by
   have:=Ke (q++[y]) x r
   simpa using this
  have e2:jU (q++[y]++x::r) q.length=y:=by
   have:=Ke q y (x::r)
   simpa using this
  have e3:(q++[y]).length=q.length+1:=by simp
  rw[e3,Gc,e1,e2]
  by_cases h:uw x.1 y.1=true
  ·rw[aD h]
   have e4:((q++[y]++x::r).set (q.length+1) y).set q.length x=q++x::(y::r):=by
    apply FI;intro i;simp only[List.getElem?_set,List.getElem?_append,aF,aS,Mw,dR]
    rcases Nat.lt_trichotomy i q.length with c|c|c
    ·simp[c,show¬q.length=i by omega,show¬q.length+1=i by omega,show i<q.length+1 by omega]
    ·subst c;simp;omega
    obtain⟨j,rfl⟩:∃j,i=q.length+(j+1):=⟨i-q.length-1,by omega⟩
    cases j with
    |zero=>simp
    |succ j=>simp[show¬q.length+(j+1+1)<q.length by omega,show¬q.length+(j+1+1)<q.length+1 by omega,show q.length+(j+1+1)-(q.length+1)=j+1 by omega,show q.length+(j+1+1)-q.length=j+2 by omega]
   rw[e4];obtain⟨a,b,h1,h2,h3,h4⟩:=ih q (y::r) hq;refine⟨a,b++[y],by rw[h1,eH],by rw[h2];simp,fun z hz=>?_,h4⟩
   rcases bK.1 hz with hz|hz
   ·exact h3 z hz
   rw[bg.1 hz];exact h
  rw[ax h];refine⟨q++[y],[],by simp,by simp,fun z hz=>(by cases hz),fun z q' e=>?_⟩;have:=(List.append_inj' e rfl).2
  simp at this
  rw[<-this];exact h
theorem Jp(l:List bL)(name data:ah)(h:iQ l name=-1):∃a b,l=a++b/\xq l name data=a++(name,data)::b/\(∀y∈b,uw name y.1=true)/\(∀y q,a=q++[y]->¬uw name y.1=true):=by
 obtain⟨a,b,h1,h2,h3,h4⟩:=YI (name,data) l.length l [] rfl;exact⟨a,b,h1,by rw[xq,aD h,h2];simp,h3,h4⟩
theorem Fu(l:List bL)(name data:ah)(h:iQ l name≠-1):∃a b old,l=a++(name,old)::b/\xq l name data=a++(name,data)::b:=by
 rcases Ij l name with ⟨j,x,h1,h2,h3⟩|⟨h1,_⟩
 ·obtain⟨hj,hx⟩:=aJ.1 h2;refine⟨l.take j,l.drop (j+1),x.2,?_,?_⟩
  ·have:x=(name,x.2):=by rw[<-h3]
   rw[<-this,<-hx,<-fA hj,MP]
  rw[xq,ax h,h1,Int.toNat_natCast,List.set_eq_take_append_cons_drop,aD hj]
 exact absurd h1 h
theorem Ee(l:List bL)(name:ah)(h:iQ l name=-1):∀x∈l,x.1≠name:=by
 rcases Ij l name with ⟨j,x,h1,_,_⟩|⟨_,h2⟩
 ·rw[h1] at h;omega
 exact h2
theorem qb.put(h:qb l)(name data:ah):qb (xq l name data):=by
 by_cases hp:iQ l name=-1
 ·obtain⟨a,b,rfl,h2,h3,h4⟩:=Jp l name data hp;have hn:=Ee _ _ hp;rw[h2];obtain⟨ha,hb,hab⟩:=mG.1 h
  have hax:∀y∈a,uw y.1 name=true:=by
   intro y hy
   have afQ:a≠[]:=by rintro rfl;cases hy
   have e:a=a.dropLast++[a.getLast afQ]:=(Bv afQ).symm;have hl:uw (a.getLast afQ).1 name=true:=Tw (h4 _ _ e) (fun q=>hn _ (by simp) q.symm);rw[e] at hy
   rcases bK.1 hy with hy|hy
   ·rw[e] at ha;exact Tx ((mG.1 ha).2.2 y hy _ (by simp)) hl
   rw[bg.1 hy];exact hl
  refine mG.2 ⟨ha,oO.2 ⟨h3,hb⟩,fun y hy z hz=>?_⟩
  rcases aV.1 hz with rfl|hz
  ·exact hax y hy
  exact hab y hy z hz
 obtain⟨a,b,old,rfl,h2⟩:=Fu l name data hp;rw[h2];obtain⟨ha,hb,hab⟩:=mG.1 h;refine mG.2 ⟨ha,oO.2 ⟨(oO.1 hb).1,(oO.1 hb).2⟩,fun y hy z hz=>?_⟩
 rcases aV.1 hz with rfl|hz
 ·exact hab y hy (name,old) (aM ..)
 exact hab y hy z (aU _ hz)
theorem qb.without(h:qb l)(name:ah):qb (iJ l name):=h.sublist List.filter_sublist
theorem qb.apply(h:qb l)(o:lu):qb (fe l o):=by
 unfold fe
 split
 ·exact h.put _ _
 split
 ·exact h.put _ _
 split
 ·exact(h.without _).put _ _
 exact h.without _
theorem yg(x:bL)(l:List bL):totalBytes (x::l)=x.2.size+totalBytes l:=by simp[totalBytes,goneBytes]
theorem JY(a b:List bL)(name old:ah)(h:qE (a++(name,old)::b)):fO (a++(name,old)::b) name=old:=by
 rw[oJ,EP,EO a name (fun x hx=>(mG.1 h).2.2 x hx _ (aM ..))]
 simp[fM]
theorem Ho(l:List bL)(name:ah)(h:iQ l name=-1):fO l name=⟨#[]⟩:=by
 rw[oJ,EO l name (Ee l name h)];rfl
theorem vz(l:List bL)(h:qE l)(name data:ah):totalBytes (xq l name data)+(fO l name).size=totalBytes l+data.size:=by
 by_cases hp:iQ l name=-1
 ·rw[Ho l name hp];obtain⟨a,b,rfl,h2,_,_⟩:=Jp l name data hp;rw[h2,pE,pE,yg];have:(⟨#[]⟩:ah).size=0:=rfl
  simp only
  omega
 obtain⟨a,b,old,rfl,h2⟩:=Fu l name data hp;rw[JY a b name old h,h2,pE,pE,yg,yg]
 simp only
 omega
theorem AY(l:List bL)(name:ah)(h:∀x∈l,x.1≠name):iJ l name=l:=by
 unfold iJ;rw[List.filter_eq_self];intro x hx
 simpa using h x hx
theorem Du(l:List bL)(h:qE l)(name:ah):totalBytes (iJ l name)+(fO l name).size=totalBytes l:=by
 by_cases hp:iQ l name=-1
 ·rw[Ho l name hp,AY l name (Ee l name hp)];rfl
 obtain⟨a,b,old,rfl,_⟩:=Fu l name name hp;obtain⟨ha,hb,hab⟩:=mG.1 h;rw[JY a b name old h]
 have e:iJ (a++(name,old)::b) name=a++b:=by
  unfold iJ;rw[xK,List.filter_cons,ax (by simp)];have h1:=AY a name (fun x hx=>hab x hx _ (aM ..));have h2:=AY b name (fun x hx e=>(oO.1 hb).1 x hx e.symm);unfold iJ at h1 h2;rw[h1,h2]
 rw[e,pE,pE,yg]
 simp only
 omega
theorem adt(l:List bL):∀x∈l,x.2.size<=totalBytes l:=by
 induction l with
 |nil=>intro x hx;cases hx
 |cons y r ih=>
  intro x hx;rw[yg]
  rcases aV.1 hx with rfl|hx
  ·omega
  have:=ih x hx;omega
theorem Ob(l:List bL)(i:Nat):(jU l i).2.size<=totalBytes l:=by
 unfold jU;rw[cZ]
 cases h:l[i]? with
 |none=>exact aN _
 |some x=>exact adt l x (aO h)
theorem pQ(l:List bL)(name:ah):(fO l name).size<=totalBytes l:=by
 unfold fO
 split
 ·exact aN _
 exact Ob l _
theorem Lr(l:List bL)(name data:ah):(xq l name data).length<=l.length+1:=by
 by_cases hp:iQ l name=-1
 ·obtain⟨a,b,rfl,h2,_,_⟩:=Jp l name data hp;rw[h2];simp;omega
 obtain⟨a,b,old,rfl,h2⟩:=Fu l name data hp;rw[h2];simp
theorem JN(l:List bL)(o:lu):(fe l o).length<=l.length+1:=by
 unfold fe
 split
 ·exact Lr _ _ _
 split
 ·exact Lr _ _ _
 split
 ·exact aA (Lr _ _ _) (Nat.succ_le_succ (Iz _ _))
 exact Nat.le_succ_of_le (Iz _ _)
def su(l:List bL):Prop:=∀x,x∈l->x.1.size<=65536
theorem su.put(h:su l)(name data:ah)(hn:name.size<=65536):su (xq l name data):=by
 by_cases hp:iQ l name=-1
 ·obtain⟨a,b,rfl,h2,_,_⟩:=Jp l name data hp;rw[h2];intro x hx
  rcases bK.1 hx with hx|hx
  ·exact h x (fq _ hx)
  rcases aV.1 hx with rfl|hx
  ·exact hn
  exact h x (lQ _ hx)
 obtain⟨a,b,old,rfl,h2⟩:=Fu l name data hp;rw[h2];intro x hx
 rcases bK.1 hx with hx|hx
 ·exact h x (fq _ hx)
 rcases aV.1 hx with rfl|hx
 ·exact hn
 exact h x (lQ _ (aU _ hx))
theorem su.without(h:su l)(name:ah):su (iJ l name):=fun x hx=>h x (Mx.1 hx).1
theorem su.apply(h:su l)(o:lu)(hn:o.name.size<=65536)(hd:o.kind=3->o.data.size<=65536):su (fe l o):=by
 unfold fe
 split
 ·exact h.put _ _ hn
 split
 ·exact h.put _ _ hn
 split
 ·rename_i h3;exact(h.without _).put _ _ (hd h3)
 exact h.without _
structure JI(l:List bL)(o:lu):Prop where
 kind:1<=o.kind/\o.kind<=4
 three:o.kind=3->iQ l o.name≠-1
 data:o.data.size<=65536
 name:o.name.size<=32
structure rV(c:Nat)(r:bS)(d:dQ):Prop where
 room:d.room=r.room
 lo:0<=r.room
 hi:r.room<=65536
 down:d.down=r.down
 DY:r.left<=9223372036854775807
 fuse:(r.lit=true/\-(c:Int)<=r.left/\((0<r.left/\d.fuse=r.left)\/(r.left<=0/\d.fuse=0/\r.down=true)))\/(r.lit=false/\d.fuse=0)
 kept:∀j,j<=r.wait.length->qb (jl r j)/\totalBytes (jl r j)<=65536
 seen:jl r r.wait.length=r.seen
 ops:∀j,j<r.wait.length->JI (jl r j) (iw r.wait j)
 count:r.safe.length+r.wait.length<=c
 names:∀j,j<=r.wait.length->su (jl r j)
variable {c:Nat}{r:bS}{d:dQ}
theorem rV.later{c':Nat}(h:rV c r d)(hc:c<=c'):rV c' r d:=
 ⟨h.room,h.lo,h.hi,h.down,h.DY,by rcases h.fuse with ⟨a,b,e⟩|e;exact aG ⟨a,by omega,e⟩;exact aL e,h.kept,h.seen,h.ops,aA h.count hc,h.names⟩
theorem rV.Kq(h:rV c r d):d.fuse<=9223372036854775807:=by
 have:=h.DY
 rcases h.fuse with ⟨_,_,⟨_,e⟩|⟨_,e,_⟩⟩|⟨_,e⟩<;>omega
theorem Ol(r:bS):∀j,(jl r j).length<=r.safe.length+j:=by
 intro j
 induction j with
 |zero=>exact ai _
 |succ j ih=>rw[jl];exact aA (JN _ _) (by omega)
theorem rV.Jq(h:rV c r d):r.seen.length<=c:=by
 rw[<-h.seen];exact aA (Ol r _) h.count
theorem rV.sorted(h:rV c r d):qb r.seen:=by
 have:=(h.kept _ (ai _)).1;rw[h.seen] at this;exact this
theorem rV.total(h:rV c r d):totalBytes r.seen<=65536:=by
 have:=(h.kept _ (ai _)).2;rw[h.seen] at this;exact this
theorem rV.Cv(h:rV c r d):su r.seen:=by
 have:=h.names _ (ai _);rw[h.seen] at this;exact this
theorem Au{r':bS}(hs:r'.safe=r.safe):∀j,(∀i,i<j->iw r'.wait i=iw r.wait i)->jl r' j=jl r j:=by
 intro j
 induction j with
 |zero=>intro _;exact hs
 |succ j ih=>
  intro h;rw[jl,jl,ih (fun i hi=>h i (by omega)),h j (by omega)]
theorem xE(d:bS):(nJ d).safe=d.safe:=by unfold nJ;split<;>rfl
theorem Gv(d:bS):(nJ d).room=d.room:=by unfold nJ;split<;>rfl
theorem VB(d:dQ):(gQ d).room=d.room:=by unfold gQ;split<;>rfl
theorem rV.ahU(h:rV c r d):rV (c+1) (nJ r) (gQ d):=by
 have hk:∀j,jl (nJ r) j=jl r j:=fun j=>Au (xE r) j (fun i _=>by rw[kK])
 have hdn:(gQ d).down=(nJ r).down/\(nJ r).left<=9223372036854775807/\(((nJ r).lit=true/\-((c+1:Nat):Int)<=(nJ r).left/\((0<(nJ r).left/\(gQ d).fuse=(nJ r).left)\/((nJ r).left<=0/\(gQ d).fuse=0/\(nJ r).down=true)))\/((nJ r).lit=false/\(gQ d).fuse=0)):=by
  have h1:=h.down;have h2:=h.DY;have h3:=h.fuse;unfold nJ gQ
  rcases h3 with ⟨hl,hlo,⟨hp,hf⟩|⟨hp,hf,hd⟩⟩|⟨hl,hf⟩
  ·rw[aD hl,aD (show 0<d.fuse by omega)]
   simp only
   by_cases hz:r.left-1<=0
   ·have e1:d.fuse-1=0:=by omega
    refine⟨by simp[hz,e1],by omega,aG ⟨hl,by omega,aL ⟨hz,e1,by simp[hz]⟩⟩⟩
   have e1:¬d.fuse-1=0:=by omega
   refine⟨by simp[hz,e1,h1],by omega,aG ⟨hl,by omega,aG ⟨by omega,by omega⟩⟩⟩
  ·rw[aD hl,ax (show¬0<d.fuse by omega)]
   simp only
   refine⟨by rw[h1,hd];simp,by omega,aG ⟨hl,by omega,aL ⟨by omega,hf,by simp[hd]⟩⟩⟩
  rw[ax (show¬r.lit=true by simp[hl]),ax (show¬0<d.fuse by omega)];exact⟨h1,h2,aL ⟨hl,hf⟩⟩
 refine⟨by rw[VB,Gv];exact h.room,by rw[Gv];exact h.lo,by rw[Gv];exact h.hi,hdn.1,hdn.2.1,hdn.2.2,?_,?_,?_,?_,?_⟩
 ·rw[kK];intro j hj;rw[hk];exact h.kept j hj
 ·rw[kK,sP,hk];exact h.seen
 ·rw[kK];intro j hj;rw[hk];exact h.ops j hj
 ·rw[kK,xE];have:=h.count;omega
 rw[kK];intro j hj;rw[hk];exact h.names j hj
theorem rV.more(h:rV c r d)(hc:r.safe.length+r.wait.length+1<=c)(o:lu)(ho:JI r.seen o)(ht:totalBytes (fe r.seen o)<=65536):rV c {r with seen:=fe r.seen o,wait:=r.wait++[o]} d:=by
 have hw:∀i,i<r.wait.length->iw (r.wait++[o]) i=iw r.wait i:=fun i hi=>by rw[iw,iw,bQ hi]
 have hk:∀j,j<=r.wait.length->jl {r with seen:=fe r.seen o,wait:=r.wait++[o]} j=jl r j:=fun j hj=>Au (by rfl) j (fun i hi=>hw i (by omega))
 have hlast:jl {r with seen:=fe r.seen o,wait:=r.wait++[o]} (r.wait.length+1)=fe r.seen o:=by
  rw[jl,hk _ (ai _),h.seen]
  simp[iw]
 refine⟨h.room,h.lo,h.hi,h.down,h.DY,h.fuse,?_,?_,?_,?_,?_⟩
 ·intro j hj;simp only[aF,tN] at hj
  rcases bR r.wait.length j with c1|c1
  ·obtain rfl:j=r.wait.length+1:=by omega
   rw[hlast];exact⟨h.sorted.apply o,ht⟩
  rw[hk j c1];exact h.kept j c1
 ·simp only[aF,tN];exact hlast
 ·intro j hj;simp only[aF,tN] at hj
  rcases bR j r.wait.length with c1|c1
  ·rw[hk j (by omega)];simp only[hw j c1];exact h.ops j c1
  obtain rfl:j=r.wait.length:=by omega
  rw[hk _ (ai _),h.seen]
  simpa[iw] using ho
 ·simp only[aF,tN];omega
 intro j hj;simp only[aF,tN] at hj
 rcases bR r.wait.length j with c1|c1
 ·obtain rfl:j=r.wait.length+1:=by omega
  rw[hlast];exact h.Cv.apply o (by have:=ho.name;omega) (fun _=>ho.data)
 rw[hk j c1];exact h.names j c1
theorem rV.do(h:rV c r d)(o:lu)(ho:JI r.seen o)(ht:totalBytes (fe r.seen o)<=65536):
  ((gQ d).down=true/\Vf r o=(4,nJ r)/\rV (c+1) (nJ r) (gQ d))\/((gQ d).down=false/\(Vf r o).1=0/\(Vf r o).2.seen=fe r.seen o/\(Vf r o).2.wait=r.wait++[o]/\(Vf r o).2.safe=r.safe/\rV (c+1) (Vf r o).2 (gQ d)):=by
 have hb:=h.ahU
 by_cases hd:(nJ r).down=true
 ·left
  exact⟨by rw[hb.down];exact hd,by rw[Vf,aD hd],hb⟩
 right
 have e:Vf r o=(0,{nJ r with seen:=fe (nJ r).seen o,wait:=(nJ r).wait++[o]}):=by rw[Vf,ax hd]
 rw[e];refine⟨by rw[hb.down];simpa using hd,rfl,by rw[sP],by rw[kK],xE r,hb.more (by rw[xE,kK];have:=h.count;omega) o (by rw[sP];exact ho) (by rw[sP];exact ht)⟩
theorem rV.fresh(c:Nat)(n:Int):rV c ⟨[],[],min (max n 0) 65536,[],0,false,false⟩ ⟨min (max n 0) 65536,0,false⟩:=
 ⟨rfl,by simp only;omega,by simp only;omega,rfl,by simp only;omega,aL ⟨rfl,rfl⟩,fun j hj=>(by obtain rfl:j=0:=(by simpa using hj);exact⟨List.Pairwise.nil,by simp[jl,totalBytes,goneBytes]⟩),rfl,fun j hj=>by simp at hj,by simp,fun j hj x hx=>by
  obtain rfl:j=0:=by simpa using hj
  simp[jl] at hx⟩
theorem rV.setFuse(h:rV c r d)(n:Int)(hn:n<=9223372036854775807):rV c {r with lit:=decide (0<n),left:=n} {d with fuse:=max n 0}:=by
 have hk:∀j,jl {r with lit:=decide (0<n),left:=n} j=jl r j:=fun j=>Au (by rfl) j (fun _ _=>rfl)
 refine⟨h.room,h.lo,h.hi,h.down,hn,?_,fun j hj=>by rw[hk];exact h.kept j hj,by rw[hk];exact h.seen,fun j hj=>by rw[hk];exact h.ops j hj,h.count,fun j hj=>by rw[hk];exact h.names j hj⟩
 by_cases c1:0<n
 ·exact aG ⟨by simp[c1],by simp only;omega,aG ⟨c1,by simp only;omega⟩⟩
 exact aL ⟨by simp[c1],by simp only;omega⟩
theorem rV.setRoom(h:rV c r d)(n:Int):rV c {r with room:=min (max n 0) 65536} {d with room:=min (max n 0) 65536}:=by
 have hk:∀j,jl {r with room:=min (max n 0) 65536} j=jl r j:=fun j=>Au (by rfl) j (fun _ _=>rfl)
 exact⟨rfl,by simp only;omega,by simp only;omega,h.down,h.DY,h.fuse,fun j hj=>by rw[hk];exact h.kept j hj,by rw[hk];exact h.seen,fun j hj=>by rw[hk];exact h.ops j hj,h.count,fun j hj=>by rw[hk];exact h.names j hj⟩
theorem rV.safely(h:rV c r d)(L:List bL)(hs:qb L)(ht:totalBytes L<=65536)(hl:L.length<=c)(hn:su L):rV c {r with safe:=L,seen:=L,wait:=[]} d:=
 ⟨h.room,h.lo,h.hi,h.down,h.DY,h.fuse,fun j hj=>by
  obtain rfl:j=0:=by simpa using hj
  exact⟨hs,ht⟩,rfl,fun j hj=>by simp at hj,by simpa using hl,fun j hj=>by
  obtain rfl:j=0:=by simpa using hj
  exact hn⟩
theorem rV.sync(h:rV c r d):
  ((gQ d).down=true/\iR r=(4,nJ r)/\rV (c+1) (nJ r) (gQ d))\/((gQ d).down=false/\(iR r).1=0/\(iR r).2.seen=r.seen/\(iR r).2.safe=r.seen/\(iR r).2.wait=[]/\rV (c+1) (iR r).2 (gQ d)):=by
 have hb:=h.ahU
 by_cases hd:(nJ r).down=true
 ·left
  exact⟨by rw[hb.down];exact hd,by rw[iR,aD hd],hb⟩
 right
 have e:iR r=(0,{nJ r with safe:=(nJ r).seen,wait:=[]}):=by rw[iR,ax hd]
 rw[e];refine⟨by rw[hb.down];simpa using hd,rfl,sP r,sP r,rfl,?_⟩;exact hb.safely (nJ r).seen hb.sorted hb.total hb.Jq hb.Cv
theorem YR(l:List bL)(h:qE l)(o:lu)(cut:Int)(hk:1<=o.kind/\o.kind<=2):totalBytes (fe l (MS o cut))<=totalBytes (fe l o):=by
 unfold MS
 split
 ·rename_i hc
  have hx:(o.data.extract 0 cut.toNat).size<=o.data.size:=by simp[aI];omega
  rcases (show o.kind=1\/o.kind=2 by omega) with e|e
  ·rw[fe,fe,aD e,aD e];have h1:=vz l h o.name (o.data.extract 0 cut.toNat);have h2:=vz l h o.name o.data
   simp only
   omega
  rw[fe,fe,ax (by simp only;omega),aD e,ax (by omega),aD e];have h1:=vz l h o.name (fO l o.name++o.data.extract 0 cut.toNat);have h2:=vz l h o.name (fO l o.name++o.data);simp only[aH] at*;omega
 exact ai _
theorem rV.ahW(h:rV c r d)(keep cut:Int):rV c (BK r keep cut) {d with fuse:=0,down:=false}/\(iK r keep cut).length<=c:=by
 have hkn:oZ r keep<=r.wait.length:=Nat.min_le_left _ _
 have hnm:su (iK r keep cut):=by
  unfold iK
  split
  ·rename_i hc
   have ho:=h.ops _ hc.1
   have e1:(MS (iw r.wait (oZ r keep)) cut).name=(iw r.wait (oZ r keep)).name:=by unfold MS;split<;>rfl
   have e2:(MS (iw r.wait (oZ r keep)) cut).kind=(iw r.wait (oZ r keep)).kind:=by unfold MS;split<;>rfl
   exact(h.names _ hkn).apply _ (by rw[e1];have:=ho.name;omega) (fun h3=>by rw[e2] at h3;have:=hc.2.1;omega)
  exact h.names _ hkn
 have hkey:qb (iK r keep cut)/\totalBytes (iK r keep cut)<=65536/\(iK r keep cut).length<=c:=by
  unfold iK;have h1:=h.kept _ hkn;have h2:=Ol r (oZ r keep);have h3:=h.count
  split
  ·rename_i hc
   have h4:=h.kept (oZ r keep+1) (by omega);refine⟨h1.1.apply _,?_,by have:=JN (jl r (oZ r keep)) (MS (iw r.wait (oZ r keep)) cut);omega⟩;have:=YR (jl r (oZ r keep)) h1.1.distinct (iw r.wait (oZ r keep)) cut ⟨(h.ops _ hc.1).kind.1,hc.2.1⟩;exact aA this h4.2
  exact⟨h1.1,h1.2,by omega⟩
 refine⟨?_,hkey.2.2⟩
 exact⟨h.room,h.lo,h.hi,rfl,h.DY,aL ⟨rfl,rfl⟩,fun j hj=>by
  obtain rfl:j=0:=by simpa[BK] using hj
  exact⟨hkey.1,hkey.2.1⟩,rfl,fun j hj=>by simp[BK] at hj,by simpa[BK] using hkey.2.2,fun j hj=>by
  obtain rfl:j=0:=by simpa[BK] using hj
  exact hnm⟩
def Ik(l:List bL)(name:ah)(vN:Value):Value×Value:=if decide (iQ l name≠-1)=true then (.string (fO l name),.nilIface) else (.string ⟨#[]⟩,vN)
theorem QN(name:ah)(hn:name.size<=maxLen)(l:List bL)(vN:Value)(d:dQ)(fb:Nat)(nb sb n:Nat)(sv:Value)(w:aj)(h:bC w fb d 0 nb sb sv)(hm:dw w nb n l)(hnb:nb≠fb)
  (hv:w.cell? ⟨1,0,none⟩=some vN) (hg:1≠fb):
  Calls Tryz.prog 45 #[.pointer (some ⟨fb,0,none⟩),.string name] w fun e w'=>e=.returned (.tuple #[(Ik l name vN).1,(Ik l name vN).2])/\bC w' fb d 0 nb sb sv/\aQ (fun k=>k=fb) w w':=by
 have HR1:=aP (h.setLock 1);have HT1:Hid (aQ (fun k=>k=fb) w (w.setCell ⟨fb,0,none⟩ (.int .i32 1))):=(aQ.refl _ w).setCell ⟨fb,0,none⟩ _ (aG rfl);have HM1:Hid (dw (w.setCell ⟨fb,0,none⟩ (.int .i32 1)) nb n l):=hm.keep (iP hnb)
 have HV1:Hid ((w.setCell ⟨fb,0,none⟩ (.int .i32 1)).cell? ⟨1,0,none⟩=some vN):=by
  show _=_;rw[aB (w:=w) (a:=⟨1,0,none⟩) (iP hg)];exact hv
 have h0:w.cell? ⟨fb,0,none⟩=some (.int .i32 0):=by rw[bZ h];rfl
 have f0:w.frozen? ⟨fb,0,none⟩=false:=iG h;clear h hm hv
 go_enter_defers Tryz.func45,Tryz.ntmps45
 go_wp2_with (go_at_call 58;refine(lock_free kg ⟨fb,0,none⟩ _ h0 f0).mono ?_;rintro e w1 ⟨rfl,rfl⟩;refine dI ?_)
 clear h0 f0;generalize w.setCell ⟨fb,0,none⟩ (.int .i32 1)=w2 at*
 have c3:w2.cell? ⟨fb,3,none⟩=some (.map (some nb)):=by rw[bZ HR1.out];rfl
 have hl:=HM1.out.look_ok name hn;obtain⟨dt,hdt⟩:∃dt,dt=fO l name:=⟨_,rfl⟩;have HDT:=aP hdt.symm;rw[<-hdt] at hl;clear hdt
 have hv1:∀o,(w2.alloc o).cell? ⟨1,0,none⟩=some vN:=fun o=>by rw[bO _ _ ⟨1,0,none⟩ (aC HV1.out)];exact HV1.out
 have HR2:Hid (bC (w2.alloc (.cells #[.string dt] 117)) fb d 1 nb sb sv):=by
  show _=_;rw[aZ _ _ _ HR1.out.lt];exact HR1.out
 have HT2:Hid (aQ (fun k=>k=fb) w (w2.alloc (.cells #[.string dt] 117))):=HT1.out.trans (aQ.of_below (fun k=>k=fb) ((au _ _).alloc (ai _) _)) (fun i hi=>aG hi)
 by_cases hp:decide (iQ l name≠-1)=true
 ·rw[hp] at hl
  have HP:Hid (Ik l name vN=(.string dt,.nilIface)):=by show _=_;rw[Ik,aD hp,HDT.out]
  clear hp HDT;unfold Hid
  go_wp2
  generalize w2.alloc (.cells #[.string dt] 117)=w3 at*;refine eY (f:=59) (args:=#[.pointer (some ⟨fb,0,none⟩)]) (by simp) (by simp[go_sem]) ?_;refine(unlock_deferred kg ⟨fb,0,none⟩ .returning _ ?_ ?_).mono ?_;(rw[bZ HR2.out];rfl);(exact iG HR2.out);rintro e u' w'' ⟨rfl,rfl,rfl⟩;exact⟨_,results_tmp2 rfl _ _ _,by rw[HP.out];rfl,HR2.out.setLock 0,HT2.out.setCell ⟨fb,0,none⟩ _ (aG rfl)⟩
 have hp2:decide (iQ l name≠-1)=false:=by simpa using hp
 rw[hp2] at hl
 have HP:Hid (Ik l name vN=(.string ⟨#[]⟩,vN)):=by show _=_;rw[Ik,ax hp]
 clear hp hp2 HDT;unfold Hid
 go_wp2_with fail
 have hv2:=hv1 (.cells #[.string dt] 117);clear hv1 HV1;generalize w2.alloc (.cells #[.string dt] 117)=w4 at*
 go_quiet (fail)
 have HR2:Hid (bC (w4.drewN nq) fb d 1 nb sb sv):=HR2.out;have HT2:Hid (aQ (fun k=>k=fb) w (w4.drewN nq)):=⟨HT2.out.os,HT2.out.output,HT2.out.size,HT2.out.block⟩;generalize w4.drewN nq=w3 at*
 go_wp2
 refine eY (f:=59) (args:=#[.pointer (some ⟨fb,0,none⟩)]) (by simp) (by simp[go_sem]) ?_;refine(unlock_deferred kg ⟨fb,0,none⟩ .returning _ ?_ ?_).mono ?_;(rw[bZ HR2.out];rfl);(exact iG HR2.out);rintro e u' w'' ⟨rfl,rfl,rfl⟩;exact⟨_,results_tmp2 rfl _ _ _,by rw[HP.out];rfl,HR2.out.setLock 0,HT2.out.setCell ⟨fb,0,none⟩ _ (aG rfl)⟩
theorem yK{ops:Array Oper}{a:Act}{w:aj}{K:Act->aj->Prop}{Q:Exit->Act->aj->Prop}{E:Prop}(hg:o.guard=none)(m x:Operand)
  (hop:o.op=Op.call {callee:=Callee.builtin Builtin.delete,args:=#[m,x],argTypes:=#[85,9]}) (b n:Nat) (l:List bL) (name:ah) (hn:name.size<=maxLen)
  (hm:a.eval m=.map (some b)) (hx:a.eval x=.string name) (h:dw w b n l)
  (hK:∀w',dw w' b n (iJ l name)->w.grownBy w' (some b)->K (a.put o.dst (.tuple #[])) w'):
  if Region.wanted o (yielded ops a.tmps)=true then Oper.wp Tryz.prog o a w K Q else E:=by
 have hw:Region.wanted o (yielded ops a.tmps)=true:=by simp[Region.wanted,hg]
 rw[aD hw];obtain⟨w',hrun,h1,h2⟩:=h.drop name hn o.type;unfold Oper.wp
 simp[execOp,hop,resolve,invoke,builtin,hm,hx,hrun,Result.andThen]
 exact hK w' h1 h2
theorem Kc(dt:ah)(w:aj):(Instr.field 117 (.agg #[.string dt]) 0).run Tryz.prog w=.ok (.string dt) w:=by kernel_rfl
theorem Sg(name part:ah)(hn:name.size<=maxLen)(l:List bL)(d:dQ)(fb:Nat)(lk:Int)(nb sb n:Nat)(sv:Value)(bf bn:Nat)(w:aj)(h:bC w fb d lk nb sb sv)(hm:dw w nb n l)(hroom:n<maxLen)
  (b0:w.cell? ⟨bf,0,none⟩=some (.pointer (some ⟨fb,0,none⟩))) (b1:w.cell? ⟨bn,0,none⟩=some (.string name)):
  Calls Tryz.prog 76 #[.string part,.pointer (some ⟨bf,0,none⟩),.pointer (some ⟨bn,0,none⟩)] w fun e w'=>e=.returned (.tuple #[])/\dw w' nb (n+1) (xq l name part)/\aQ (fun k=>k=nb) w w':=by
 have c3:w.cell? ⟨fb,3,none⟩=some (.map (some nb)):=by rw[bZ h];rfl
 obtain⟨w1,hst,hm1,hg1⟩:=(show dw w.drew nb n l from hm.keep rfl).store hroom name part hn;have HX:Hid (dw w1 nb (n+1) (xq l name part)/\aQ (fun k=>k=nb) w w1):=⟨hm1,⟨hg1.os,hg1.output,hg1.size,fun k hk hn=>hg1.block k hk (fun e=>hn (ak e))⟩⟩;clear h hm hm1 hg1
 go_enter Tryz.func76,Tryz.ntmps76
 go_wp2
 go_region
 all_goals
  go_wp2
  go_end0
  exact⟨rfl,HX.out.1,HX.out.2⟩
theorem Qd(name part:ah)(hn:name.size<=maxLen)(l:List bL)(hp:part.size<=1099511627776)(hdt:(fO l name).size<=1099511627776)(d:dQ)(fb:Nat)(lk:Int)(nb sb n:Nat)(sv:Value)(bf bn:Nat)(w:aj)(h:bC w fb d lk nb sb sv)(hm:dw w nb n l)(hroom:n<maxLen)
  (b0:w.cell? ⟨bf,0,none⟩=some (.pointer (some ⟨fb,0,none⟩))) (b1:w.cell? ⟨bn,0,none⟩=some (.string name)):
  Calls Tryz.prog 303 #[.string part,.pointer (some ⟨bf,0,none⟩),.pointer (some ⟨bn,0,none⟩)] w fun e w'=>e=.returned (.tuple #[])/\dw w' nb (n+1) (xq l name (fO l name++part))/\aQ (fun k=>k=nb) w w':=by
 have c3:w.cell? ⟨fb,3,none⟩=some (.map (some nb)):=by rw[bZ h];rfl
 have hl:=(show dw w.drew nb n l from hm.keep rfl).look name hn;obtain⟨w1,hst,hm1,hg1⟩:=(show dw w.drew nb n l from hm.keep rfl).store hroom name (fO l name++part) hn;have HX:Hid (dw w1 nb (n+1) (xq l name (fO l name++part))/\aQ (fun k=>k=nb) w w1):=⟨hm1,⟨hg1.os,hg1.output,hg1.size,fun k hk hn=>hg1.block k hk (fun e=>hn (ak e))⟩⟩;clear h hm hm1 hg1;generalize fO l name=dt at*;have hfd:=Kc dt w.drew
 go_enter Tryz.func303,Tryz.ntmps303
 go_wp2
 go_region
 all_goals
  go_wp2
  go_end0
  exact⟨rfl,HX.out.1,HX.out.2⟩
theorem Qe(name part:ah)(hn:name.size<=maxLen)(l:List bL)(d:dQ)(fb:Nat)(lk:Int)(nb sb n:Nat)(sv:Value)(bf bn:Nat)(w:aj)(h:bC w fb d lk nb sb sv)(hm:dw w nb n l)
  (b0:w.cell? ⟨bf,0,none⟩=some (.pointer (some ⟨fb,0,none⟩))) (b1:w.cell? ⟨bn,0,none⟩=some (.string name)):
  Calls Tryz.prog 126 #[.string part,.pointer (some ⟨bf,0,none⟩),.pointer (some ⟨bn,0,none⟩)] w fun e w'=>e=.returned (.tuple #[])/\dw w' nb n (iJ l name)/\aQ (fun k=>k=nb) w w':=by
 have c3:w.cell? ⟨fb,3,none⟩=some (.map (some nb)):=by rw[bZ h];rfl
 have HM:=aP hm;clear h hm
 go_enter Tryz.func126,Tryz.ntmps126
 go_wp2_with fail
 go_region_law (refine yK rfl _ _ rfl nb n l name hn rfl rfl ?_ ?_;exact HM.out.keep rfl;intro w1 hm1 hg1)
 all_goals
  have HX:Hid (dw w1 nb n (iJ l name)/\aQ (fun k=>k=nb) w w1):=⟨hm1,⟨hg1.os,hg1.output,hg1.size,fun k hk hn=>hg1.block k hk (fun e=>hn (ak e))⟩⟩;clear hm1 hg1
  go_wp2
  go_end0
  exact⟨rfl,HX.out.1,HX.out.2⟩
theorem Qf(frm aqB part:ah)(hn:frm.size<=maxLen)(hn2:aqB.size<=maxLen)(l:List bL)(d:dQ)(fb:Nat)(lk:Int)(nb sb n:Nat)(sv:Value)(bf bn bt:Nat)(w:aj)(h:bC w fb d lk nb sb sv)(hm:dw w nb n l)(hroom:n<maxLen)(hne:fb≠nb/\bf≠nb/\bn≠nb/\bt≠nb)
  (b0:w.cell? ⟨bf,0,none⟩=some (.pointer (some ⟨fb,0,none⟩))) (b1:w.cell? ⟨bn,0,none⟩=some (.string frm)) (b2:w.cell? ⟨bt,0,none⟩=some (.string aqB)):
  Calls Tryz.prog 252 #[.string part,.pointer (some ⟨bf,0,none⟩),.pointer (some ⟨bn,0,none⟩),.pointer (some ⟨bt,0,none⟩)] w fun e w'=>e=.returned (.tuple #[])/\dw w' nb (n+1) (xq (iJ l frm) aqB (fO l frm))/\aQ (fun k=>k=nb) w w':=by
 have c3:w.cell? ⟨fb,3,none⟩=some (.map (some nb)):=by rw[bZ h];rfl
 have hl:=(show dw w.drew nb n l from hm.keep rfl).look frm hn;have hl2:=(show dw (w.alloc (.cells #[.string ⟨#[]⟩] 117)).drew nb n l from hm.keep (aZ w _ nb hm.lt)).look frm hn
 have hcz:∀(p:Addr) (v:Value),w.cell? p=some v->(w.alloc (.cells #[.string ⟨#[]⟩] 117)).drew.cell? p=some v:=fun p v hp=>by
  have:=bO w (.cells #[.string ⟨#[]⟩] 117) p (aC hp);exact this.trans hp
 have c3z:=hcz _ _ c3;have b0z:=hcz _ _ b0;have b1z:=hcz _ _ b1;have HM:=aP hm;have hnb:=hm.lt;clear h hm hcz;generalize fO l frm=dt at*
 go_enter Tryz.func252,Tryz.ntmps252
 go_wp2_with fail
 go_region
 all_goals
  have HM0:Hid (dw (w.alloc (.cells #[.string dt] 117)).drew nb n l):=HM.out.keep (aZ w _ nb hnb);have HT0:Hid (aQ (fun k=>k=nb) w (w.alloc (.cells #[.string dt] 117)).drew):=⟨rfl,rfl,by simp[World.drew],fun k hk _=>aZ w _ k hk⟩
  have hcell:∀(p:Addr) (v:Value),w.cell? p=some v->(w.alloc (.cells #[.string dt] 117)).drew.cell? p=some v:=fun p v hp=>(bO w (.cells #[.string dt] 117) p (aC hp)).trans hp
  have c3':=hcell _ _ c3;have b0':=hcell _ _ b0;have b1':=hcell _ _ b1;have b2':=hcell _ _ b2
  have hwas:(w.alloc (.cells #[.string dt] 117)).drew.cell? ⟨w.heap.size,0,none⟩=some (.string dt):=by
   have h1:(w.alloc (.cells #[.string dt] 117)).cell? ⟨w.heap.size,0,none⟩=some (.string dt):=by rw[bZ (aW w _ _ rfl)];rfl
   exact h1
  have hnw:w.heap.size≠nb:=by omega
  clear hcell c3 b0 b1 b2 c3z b0z b1z hl hl2 HM;generalize (w.alloc (.cells #[.string dt] 117)).drew=W at*
  go_wp2_with fail
  go_region_law (refine yK rfl _ _ rfl nb n l frm hn rfl rfl ?_ ?_;exact HM0.out.keep rfl;intro w1 hm1 hg1)
  all_goals
   have hc1:∀(p:Addr) (v:Value),W.cell? p=some v->p.block≠nb->w1.cell? p=some v:=fun p v hp hb=>by
    rw[aB (w:=W) (hg1.block p.block (aC hp) (fun e=>hb (ak e)))];exact hp
   have c3:=hc1 _ _ c3' hne.1;have b0:=hc1 _ _ b0' hne.2.1;have b1:=hc1 _ _ b1' hne.2.2.1;have b2:=hc1 _ _ b2' hne.2.2.2;have hws:=hc1 _ _ hwas hnw;have HT1:Hid (aQ (fun k=>k=nb) w w1):=HT0.out.trans (G:=fun k=>k=nb) ⟨hg1.os,hg1.output,hg1.size,fun k hk hn=>hg1.block k hk (fun e=>hn (ak e))⟩ (fun i hi=>aG hi);obtain⟨w2,hst,hm2,hg2⟩:=(show dw w1.drew nb n (iJ l frm) from hm1.keep rfl).store hroom aqB dt hn2;have HX:Hid (dw w2 nb (n+1) (xq (iJ l frm) aqB dt)/\aQ (fun k=>k=nb) w w2):=⟨hm2,HT1.out.trans (G:=fun k=>k=nb) ⟨hg2.os,hg2.output,hg2.size,fun k hk hn=>hg2.block k hk (fun e=>hn (ak e))⟩ (fun i hi=>aG hi)⟩;clear hc1 hg1 c3' b0' b1' b2' hwas hm1 hm2 hg2 HT1
   go_wp2_with fail
   go_region
   all_goals
    go_wp2
    go_end0
    exact⟨rfl,HX.out.1,HX.out.2⟩
theorem Ue(n:Int)(w:aj):
  Calls Tryz.prog 27 #[.int .i64 n] w fun e w'=>∃fb nb sb,e=.returned (.pointer (some ⟨fb,0,none⟩))/\bC w' fb ⟨min (max n 0) 65536,0,false⟩ 0 nb sb (.slice none 0 0)/\dw w' nb 0 []/\dw w' sb 0 []/\w.heap.size<=fb/\w.heap.size<=nb/\w.heap.size<=sb/\nb≠fb/\sb≠fb/\nb≠sb/\Below w.heap.size w w':=by
 have hmm:= @run_makeMap Tryz.prog
 go_enter Tryz.func27,Tryz.ntmps27
 go_wp2_with (go_at_call 48;refine(Mq n _).mono ?_;rintro e w2 ⟨rfl,rfl⟩)
 go_ret;have s1:(w2.alloc (.map #[] 0)).heap.size=w2.heap.size+1:=bJ _ _
 have s2:((w2.alloc (.map #[] 0)).alloc (.map #[] 0)).heap.size=w2.heap.size+1+1:=by rw[bJ,s1]
 have m2:dw ((w2.alloc (.map #[] 0)).alloc (.map #[] 0)) (w2.heap.size+1) 0 []:=by have:=dw.made (w2.alloc (.map #[] 0));rw[s1] at this;exact this
 have m1:dw ((w2.alloc (.map #[] 0)).alloc (.map #[] 0)) w2.heap.size 0 []:=(dw.made w2).keep (aZ _ _ _ (by rw[s1];omega));refine⟨w2.heap.size+1+1,w2.heap.size,w2.heap.size+1,rfl,?_,m1.keep (aZ _ _ _ m1.lt),m2.keep (aZ _ _ _ m2.lt),by omega,by omega,by omega,by omega,by omega,by omega,(((au _ _).alloc (ai _) _).alloc (by rw[s1];omega) _).alloc (by rw[s2];omega) _⟩;have h:(((w2.alloc (.map #[] 0)).alloc (.map #[] 0)).alloc (.cells #[.int .i32 0,.int .u32 0,.int .i64 (min (max n 0) 65536),.map (some w2.heap.size),.map (some (w2.heap.size+1)),.slice none 0 0,.int .i64 0,.bool false] 95)).heap[((w2.alloc (.map #[] 0)).alloc (.map #[] 0)).heap.size]?=some (.cells #[.int .i32 0,.int .u32 0,.int .i64 (min (max n 0) 65536),.map (some w2.heap.size),.map (some (w2.heap.size+1)),.slice none 0 0,.int .i64 0,.bool false] 95 (0,0)):=aW _ _ _ rfl;rw[s2] at h;exact h
