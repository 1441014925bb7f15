import Derived.Test.YthhbpebihgjpjaaGreatDoorZ08
import Derived.Test.YthhbpebihgjpjaaGreatDoorZ10
namespace Go.Proofs.YthhbpebihgjpjaaGreatDoor
set_option maxRecDepth 1000000
set_option maxHeartbeats 20000000
set_option linter.all false
structure gG where
 name:ah
 sig:ah
 sum:ah
def lZ(r:gG):ah:=⟨#[UInt8.ofNat r.name.size]⟩++r.name++r.sig++r.sum
def lN(b:ah):ah:=xk (BO b).toNat
def zT(r:gG):ah:=⟨#[UInt8.ofNat (lZ r).size]⟩++lZ r++lN (lZ r)
def gm:List gG->ah
 |[]=>⟨#[]⟩
 |r::l=>zT r++gm l
def mg(t:ah):Option (ah×ah):=
 if t.size=0 then none
 else if t.size<1+byteOf t 0+4 then none
 else if t.extract (1+byteOf t 0) (1+byteOf t 0+4)=lN (t.extract 1 (1+byteOf t 0)) then some (t.extract 1 (1+byteOf t 0),t.extract (1+byteOf t 0+4) t.size)
 else none
def qb(b:ah):Option gG:=
 if b.size<65 then none
 else if byteOf b 0≠b.size-65 then none
 else if eU (b.extract 1 (b.size-64))=true then some ⟨b.extract 1 (b.size-64),b.extract (b.size-64) (b.size-32),b.extract (b.size-32) b.size⟩
 else none
def oU(t:ah):Option (gG×ah):=(mg t).bind fun x=>(qb x.1).map fun r=>(r,x.2)
def jv:ah:=⟨#[98,117,105,108,100,101,114,108,111,103,49,10]⟩
def mF:Nat->ah->List gG->List gG×Bool
 |0,t,l=>(l,t.size==0)
 |g+1,t,l=>if t.size=0 then (l,true) else match oU t with
   |none=>(l,false)
   |some x=>mF g x.2 (l++[x.1])
def iC(t:ah):List gG×Bool:=
 if t.extract 0 12=jv then mF t.size (t.extract 12 t.size) [] else ([],false)
section
open Go.RowKit
def bJ(r:gG):List Value:=.string r.name::(Lib.strCells r.sig++Lib.strCells r.sum)
structure lU(r:gG):Prop where
 name:r.name.size<=32
 sig:r.sig.size=32
 sum:r.sum.size=32
variable {j:Nat}{u:Value}
theorem UF{s:ah}(h:(Lib.strCells s)[j]?=some u):j<s.size:=by
 have:=(aN.1 h).1
 rwa [Lib.strCells_length] at this
variable {r:gG}
theorem aea(h:(Lib.strCells r.sig)[j]?=some u):(bJ r)[1+j]?=some u:=by
 show((.string r.name:Value)::(Lib.strCells r.sig++Lib.strCells r.sum))[1+j]?=_;rw[Yz,iK,bW (by rw[Lib.strCells_length];exact UF h)];exact h
theorem aeb(hr:lU r)(h:(Lib.strCells r.sum)[j]?=some u):(bJ r)[33+j]?=some u:=by
 show((.string r.name:Value)::(Lib.strCells r.sig++Lib.strCells r.sum))[33+j]?=_;rw[show 33+j=32+j+1 by omega,iK,dz (by rw[Lib.strCells_length,hr.sig];omega),Lib.strCells_length,hr.sig,show 32+j-32=j by omega];exact h
theorem ByteArray.zk(s:ah):(⟨#[]⟩:ah)++s=s:=by
 apply ByteArray.ext
 simp
theorem aa6(r:gG)(hr:lU r)(w:ak):
  Calls Tryz.prog 249 #[.agg (bJ r).toArray] w fun e w'=>e=.returned (.string (lZ r))/\Below w.heap.size w w':=by
 have HR:=aV hr;have hn:=hr.name
 have n0:(r.name.size:Int)<=32:=aJ
 obtain⟨W1,hW1⟩:∃W1,W1=(w.alloc (.cells (bJ r).toArray 372)).alloc (.cells #[.pointer none,.slice none 0 0] 379):=⟨_,rfl⟩
 have hrow:W1.heap[w.heap.size]?=some (.cells (bJ r).toArray 372 (0,0)):=by
  rw[hW1,bC _ _ _ eB];exact bq _ _ _ rfl
 have HB1:Hid (dW W1 (w.heap.size+1) ⟨#[]⟩):=by
  have h:=uY (w.alloc (.cells (bJ r).toArray 372));rw[<-hW1] at h;show dW W1 (w.heap.size+1) _
  simpa using h
 have tF:Hid (Below w.heap.size w W1):=by rw[hW1];exact((ay _ _).alloc (ai _) _).alloc eB _
 have HC:Hid (∀j u,(bJ r)[j]?=some u->W1.cell? ⟨w.heap.size,j,none⟩=some u):=fun j u hu=>by rw[aj _ _ _ _ _ _ hrow];simpa using hu
 have c0:W1.cell? ⟨w.heap.size,0,none⟩=some (.string r.name):=HC.out 0 _ rfl;clear hrow hr
 have c0a:((w.alloc (.cells (bJ r).toArray 372)).alloc (.cells #[.pointer none,.slice none 0 0] 379)).cell? ⟨w.heap.size,0,none⟩=some (.string r.name):=by rw[<-hW1];exact c0
 generalize hRC:(bJ r).toArray=RC at*;clear hRC
 go_enter Tryz.func249,Tryz.ntmps249
 go_wp2_with fail
 rw[<-hW1];clear hW1 c0a;refine(xE (w.heap.size+1) ⟨#[]⟩ (UInt8.ofNat r.name.size) _ ?_ W1 HB1.out (by show 0+1<=_;omega)).mono ?_
 ·simp;omega
 rintro e w2 ⟨rfl,hb2,hl2⟩;have HB2:=aV hb2
 have HC2:Hid (∀j u,(bJ r)[j]?=some u->w2.cell? ⟨w.heap.size,j,none⟩=some u):=fun j u hu=>(hl2.cell (p:=⟨w.heap.size,j,none⟩) (jc _)).trans (HC.out j u hu)
 have HL2:Hid (Below w.heap.size w w2):=tF.out.trans (hl2.mono (fH _));have d0:w2.cell? ⟨w.heap.size,0,none⟩=some (.string r.name):=HC2.out 0 _ rfl;clear hb2 hl2 HB1 HC tF c0
 go_wp2_with fail
 refine(rO (w.heap.size+1) _ r.name w2 HB2.out (by simp[aL];show 0+1+_<=_;omega)).mono ?_;rintro e w3 ⟨rfl,hb3,hl3⟩;have HB3:=aV hb3
 have HC3:Hid (∀j u,(bJ r)[j]?=some u->w3.cell? ⟨w.heap.size,j,none⟩=some u):=fun j u hu=>(hl3.cell (p:=⟨w.heap.size,j,none⟩) (jc _)).trans (HC2.out j u hu)
 have HL3:Hid (Below w.heap.size w w3):=HL2.out.trans (hl3.mono (fH _))
 have HZ3:Hid ((⟨#[]⟩++⟨#[UInt8.ofNat r.name.size]⟩++r.name:ah).size<=33):=by show _<=_;rw[aL,aL];show 0+1+_<=_;omega
 clear hb3 hl3 HB2 HC2 HL2 d0;generalize hT3:(⟨#[]⟩++⟨#[UInt8.ofNat r.name.size]⟩++r.name:ah)=T3 at*;have HT3:=aV hT3;clear hT3
 have HW4:Hid (Calls Tryz.prog 247 #[.pointer (some ⟨w.heap.size+1,0,none⟩),.slice (some ⟨w.heap.size,1,none⟩) 32 32] w3 fun e w'=>e=.returned (.tuple #[.int .i64 32,.nilIface])/\dW w' (w.heap.size+1) (T3++r.sig)/\Below (w.heap.size+1) w3 w'):=by
  have h:=JU (w.heap.size+1) T3 r.sig w.heap.size 1 32 w3 HB3.out (jc _) (by have:=HZ3.out;rw[HR.out.sig];omega) (fun j u hu=>HC3.out (1+j) u (aea hu));rw[HR.out.sig] at h;exact h
 go_wp2_with fail
 refine HW4.out.mono ?_;rintro e w4 ⟨rfl,hb4,hl4⟩;have xC:=aV hb4
 have HC4:Hid (∀j u,(bJ r)[j]?=some u->w4.cell? ⟨w.heap.size,j,none⟩=some u):=fun j u hu=>(hl4.cell (p:=⟨w.heap.size,j,none⟩) (jc _)).trans (HC3.out j u hu)
 have HL4:Hid (Below w.heap.size w w4):=HL3.out.trans (hl4.mono (fH _));clear hb4 hl4 HB3 HC3 HL3 HW4
 have HW5:Hid (Calls Tryz.prog 247 #[.pointer (some ⟨w.heap.size+1,0,none⟩),.slice (some ⟨w.heap.size,33,none⟩) 32 32] w4 fun e w'=>e=.returned (.tuple #[.int .i64 32,.nilIface])/\dW w' (w.heap.size+1) (T3++r.sig++r.sum)/\Below (w.heap.size+1) w4 w'):=by
  have h:=JU (w.heap.size+1) (T3++r.sig) r.sum w.heap.size 33 32 w4 xC.out (jc _) (by have:=HZ3.out;rw[aL,HR.out.sig,HR.out.sum];omega) (fun j u hu=>HC4.out (33+j) u (aeb HR.out hu));rw[HR.out.sum] at h;exact h
 go_wp2_with fail
 refine HW5.out.mono ?_;rintro e w5 ⟨rfl,hb5,hl5⟩;have HL5:Hid (Below w.heap.size w w5):=HL4.out.trans (hl5.mono (fH _));have CU:Hid (Calls Tryz.prog 248 #[.pointer (some ⟨w.heap.size+1,0,none⟩)] w5 fun e w'=>e=.returned (.string (T3++r.sig++r.sum))/\dW w' (w.heap.size+1) (T3++r.sig++r.sum)/\Below (w.heap.size+1) w5 w'):=uX _ _ w5 hb5
 have HBS:Hid (lZ r=T3++r.sig++r.sum):=by
  show _=_;rw[<-HT3.out];unfold lZ;rw[ByteArray.zk]
 clear hb5 hl5 xC HC4 HL4 HW5;generalize T3++r.sig++r.sum=T5 at*
 go_wp2_with fail
 refine CU.out.mono ?_;rintro e w6 ⟨rfl,_,hl6⟩;have HL6:Hid (Below w.heap.size w w6):=HL5.out.trans (hl6.mono (fH _));clear hl6 CU
 go_wp2
 go_ret;exact⟨by rw[HBS.out];rfl,HL6.out⟩
def yJ(row:List Value)(o n:Nat)(s:ah):List Value:=row.take o++(Lib.strCells s).take n++row.drop (o+n)
theorem UG(s:ah):s.data.toList.map (fun x=>Value.int .u8 (x.toNat:Int))=Lib.strCells s:=rfl
variable {P:Program}
theorem FD(w:ak)(dT sT ty elem:TypeId)(g o n cap:Nat)(s:ah)(t:TypeId)(row:List Value)
  (hu:P.underlying dT=some (.slice elem)) (hs:(P.info? elem).map (·.size)=some 1) (hg:w.heap[g]?=some (.cells row.toArray t (0,0))) (hn:n<=s.size) (ho:o+n<=row.length):
  (Builtin.copy_ #[dT,sT] ty #[.slice (some ⟨g,o,none⟩) n cap,.string s]).run P w=.ok (goInt n) (w.setRow g (yJ row o n s).toArray):=by
 have hl:((Lib.strCells s).take n).length=n:=by rw[ic,Lib.strCells_length];omega
 have hst:=acM P g o t ((Lib.strCells s).take n) 0 row.toArray w hg (by rw[hl,bZ];omega) (by
  intro v hv;obtain⟨x,_,rfl⟩:=fP.1 (PD hv)
  rfl)
 rw[hl] at hst
 cases hq:P.info? elem with
 |none=>simp[hq] at hs
 |some i=>
  simp[Builtin.copy_,ny hu,Builtin.lenOf,Builtin.firstCells,sizeOf,typeInfo,hq]
  have e1:s.size.min n=n:=aaW hn;have e2:n.min s.size=n:=lK hn
  try rw[e1]
  try rw[e2]
  rw[UG,hst]
  simp[Result.andThen,yJ]
variable {o:Oper}
theorem Jd{P:Program}{w:ak}{ops:Array Oper}{rest:List Oper}{a:Act}{Q:Exit->Act->ak->Prop}(hgd:o.guard=none)(d x:Operand)(dT sT:TypeId)
  (ho:o.op=.call {callee:=.builtin .copy,args:=#[d,x],argTypes:=#[dT,sT]}) (elem:TypeId) (hu:P.underlying dT=some (.slice elem)) (hsz:(P.info? elem).map (·.size)=some 1)
  (g off n cap:Nat) (s:ah) (hd:a.eval d=.slice (some ⟨g,off,none⟩) n cap) (hs:a.eval x=.string s)
  (t:TypeId) (row:List Value) (hg:w.heap[g]?=some (.cells row.toArray t (0,0))) (hn:n<=s.size) (hl:off+n<=row.length)
  (h:∀w',Hid (w'.heap[g]?=some (.cells (yJ row off n s).toArray t (0,0)))->Hid (∀k,k≠g->w'.heap[k]?=w.heap[k]?)->Hid (∀B w0,Below B w0 w->B<=g->Below B w0 w')->wpList P ops Q rest (a.put o.dst (goInt n)) w'):wpList P ops Q (o::rest) a w:=by
 refine wpList_plain hgd fun K hK=>?_
 have hrun:=FD (P:=P) w dT sT o.type elem g off n cap s t row hu hsz hg hn hl;unfold Oper.wp
 simp[execOp,ho,resolve,invoke,builtin,hd,hs,hrun,Result.andThen]
 exact hK _ _ (h _ (setRow_heap w g _ _ t _ hg) (fun k hk=>setRow_other w g k _ hk) (fun B w0 hb hB=>below_setRow hb hB _))
theorem Va{P:Program}{w:ak}{a:Act}{K:Act->ak->Prop}{Q:Exit->Act->ak->Prop}(d x:Operand)(dT sT:TypeId)
  (ho:o.op=.call {callee:=.builtin .copy,args:=#[d,x],argTypes:=#[dT,sT]}) (elem:TypeId) (hu:P.underlying dT=some (.slice elem)) (hsz:(P.info? elem).map (·.size)=some 1)
  (g off n cap:Nat) (s:ah) (hd:a.eval d=.slice (some ⟨g,off,none⟩) n cap) (hs:a.eval x=.string s)
  (t:TypeId) (row:List Value) (hg:w.heap[g]?=some (.cells row.toArray t (0,0))) (hn:n<=s.size) (hl:off+n<=row.length)
  (h:∀w',Hid (w'.heap[g]?=some (.cells (yJ row off n s).toArray t (0,0)))->Hid (∀k,k≠g->w'.heap[k]?=w.heap[k]?)->Hid (∀B w0,Below B w0 w->B<=g->Below B w0 w')->K (a.put o.dst (goInt n)) w'):o.wp P a w K Q:=by
 have hrun:=FD (P:=P) w dT sT o.type elem g off n cap s t row hu hsz hg hn hl;unfold Oper.wp
 simp[execOp,ho,resolve,invoke,builtin,hd,hs,hrun,Result.andThen]
 exact h _ (setRow_heap w g _ _ t _ hg) (fun k hk=>setRow_other w g k _ hk) (fun B w0 hb hB=>below_setRow hb hB _)
theorem abU(nm s:ah)(z:List Value):yJ (.string nm::z) 1 32 s=.string nm::(Lib.strCells (s.extract 0 32)++z.drop 32):=by
 have e:(Lib.strCells s).take 32=Lib.strCells (s.extract 0 32):=by
  show(s.data.toList.map _).take 32=(s.extract 0 32).data.toList.map _;rw[<-List.map_take]
  congr 1
  simp[gI,Pn]
 unfold yJ;rw[e];rfl
theorem abV(nm a s:ah)(z:List Value)(hz:z.length=32)(ha:a.size=32)(hs:s.size=32):yJ (.string nm::(Lib.strCells a++z)) 33 32 s=bJ ⟨nm,a,s⟩:=by
 have e:(Lib.strCells s).take 32=Lib.strCells s:=bK (by rw[Lib.strCells_length];omega);unfold yJ bJ;rw[e,List.take_succ_cons,show 33+32=64+1 from rfl,List.drop_succ_cons,List.take_left' (by rw[Lib.strCells_length,ha]),yY (by rw[aI,Lib.strCells_length,ha,hz];omega)]
 simp
def sG(w:ak)(v:Value)(l:List gG):Prop:=∃ao cap,v=.slice ao l.length cap/\l.length<=cap/\(l=[]\/∃g o,ao=some ⟨g,o,none⟩/\g<w.heap.size/\∀(k:Nat) r,l[k]?=some r->w.rangeAt g (o+k*65) (bJ r))
variable {w:ak}{v:Value}
theorem sG.keep{w':ak}{l:List gG}(h:sG w v l)(hb:Below w.heap.size w w'):sG w' v l:=by
 obtain⟨ao,cap,rfl,hc,h|⟨g,o,rfl,hg,h⟩⟩:=h
 ·exact⟨ao,cap,rfl,hc,aK h⟩
 exact⟨_,cap,rfl,hc,aP ⟨g,o,rfl,aB hg hb.size,fun k r hr j u hu=>(hb.cell (p:=⟨g,o+k*65+j,none⟩) hg).trans (h k r hr j u hu)⟩⟩
theorem iV(h:lU r):(bJ r).length=65:=by
 show(Lib.strCells r.sig++Lib.strCells r.sum).length+1=65;rw[aI,Lib.strCells_length,Lib.strCells_length,h.sig,h.sum]
theorem lS(r:gG):∀u∈bJ r,u.oneCell'=true:=by
 intro u hu
 rcases bg.1 hu with rfl|hu
 ·rfl
 rcases bQ.1 hu with hu|hu<;>(obtain⟨y,_,rfl⟩:=fP.1 hu;rfl)
theorem LA(r:gG):∀l:List gG,gm (l++[r])=gm l++zT r
 |[]=>by
  show zT r++⟨#[]⟩=⟨#[]⟩++zT r;rw[ByteArray.zk];apply ByteArray.ext
  simp
 |x::l=>by
  show zT x++gm (l++[r])=zT x++gm l++zT r;rw[LA r l,dN]
theorem Al(h:lU r):(lZ r).size=r.name.size+65:=by
 unfold lZ;rw[aL,aL,aL,h.sig,h.sum];show 1+_+32+32=_;omega
theorem OT(h:lU r):(zT r).size=r.name.size+70:=by
 unfold zT;rw[aL,aL,Al h];show 1+_+4=_;omega
theorem AP:∀l:List gG,(∀r∈l,lU r)->(gm l).size<=l.length*102
 |[],_=>ai _
 |r::l,h=>by
  show(zT r++gm l).size<=_;rw[aL,OT (h r (aQ ..)),aY,Nat.succ_mul];have h1:=AP l (fun x hx=>h x (aZ _ hx));have h2:=(h r (aQ ..)).name;omega
theorem Bh(l:List gG)(v:Value)(w:ak)(h:sG w v l)(hok:∀r∈l,lU r)(hl:l.length<=1000000000000):
  Calls Tryz.prog 172 #[v] w fun e w'=>e=.returned (.string (gm l))/\Below w.heap.size w w':=by
 obtain⟨ao,cap,rfl,hc,hg⟩:=id h;have HR:=aV h;have HOK:=aV hok
 have aiX:(Tryz.prog.info? 372).map (·.size)=some 65:=dD
 have HI:=aV aiX;clear h hok hc hg aiX;generalize hL:l.length=L at*;have HL:=aV hL
 have l0:(L:Int)<=1000000000000:=aJ
 clear hL;have HB0:Hid (dW (w.alloc (.cells #[.pointer none,.slice none 0 0] 379)) w.heap.size ⟨#[]⟩/\Below w.heap.size w (w.alloc (.cells #[.pointer none,.slice none 0 0] 379))):=⟨uY w,(ay _ _).alloc (ai _) _⟩
 go_enter Tryz.func172,Tryz.ntmps172
 go_wp2_with fail
 generalize w.alloc (.cells #[.pointer none,.slice none 0 0] 379)=w1 at*
 go_loopw [9] (fun i wr=>∃j:Nat,i=.int .i64 j/\j<=L/\dW wr w.heap.size (gm (l.take j))/\Below w.heap.size w wr) (fun i _=>L-(intOf i).toNat)
 case atStart=>exact⟨0,rfl,aS _,HB0.out⟩
 case round=>
  clear HB0;obtain⟨j,rfl,hj,hbt,hbl⟩:=hrel;have HBT:=aV hbt;have tF:=aV hbl;clear hbt hbl
  have j0:(0:Int)<=(j:Int):=aJ
  by_cases hlt:j<L
  ·have j1:(j:Int)<(L:Int):=aJ
   obtain⟨r,hr⟩:∃r,l[j]?=some r:=⟨l[j]'(by have:=HL.out;omega),eB⟩;obtain⟨_,_,e5,_,h6⟩:=HR.out.keep tF.out;injection e5 with f1 f2 f3
   rcases h6 with h6|⟨g,o,h6,hgl,hrg⟩
   ·rw[h6] at hr;simp at hr
   rw[h6] at f1;subst f1;have HRG:=aV (hrg j r hr);have hro:=HOK.out r (aU hr);have Da:=aV (aO hro hr)
   have HI2:Hid ((Tryz.prog.info? 372).map (·.size)=some (bJ r).length):=by rw[iV hro];exact HI.out
   clear hrg hr hro f2 f3 h6
   go_wp2_with (first
    | (refine nY rfl 372 (.tmp 11) rfl g (o+j*65) rfl (bJ r) _ HRG.out Tryz.underlying372 rfl HI2.out ?_;refine dO ?_)
    |fail)
   have wX:Hid ((bJ r).toArray.size=65/\(bJ r).toArray.all (·.oneCell')=true):=⟨by rw[bZ];exact iV Da.out.1,eH (lS r)⟩;have NC:Hid ((bJ r).toArray.toList=bJ r):=rfl
   have HBY:Hid (∀wx,Calls Tryz.prog 249 #[.agg (bJ r).toArray] wx fun e w'=>e=.returned (.string (lZ r))/\Below wx.heap.size wx w'):=fun wx=>aa6 r Da.out.1 wx
   clear HRG;generalize hRC:(bJ r).toArray=RC at*;clear hRC;unfold Hid
   go_wp2_with (first
    | (refine cK rfl 372 (.tmp 5) (.tmp 12) rfl wr.heap.size 0 RC rfl rfl (bR (bq _ _ _ rfl) 0 _ (by rw[wX.out.1];decide)) (by rw[wX.out.1];exact HI.out) wX.out.2 ?_;refine dO ?_)
    |fail)
   have HW2:Hid (Below wr.heap.size wr ((wr.alloc (.cells Tryz.zeroCells372 372)).setCells wr.heap.size 0 RC.toList)/\((wr.alloc (.cells Tryz.zeroCells372 372)).setCells wr.heap.size 0 RC.toList).rangeAt wr.heap.size 0 RC.toList):=by
    refine⟨jo _ _ ((ay _ _).alloc (ai _) _) (ai _),eF _ _ _ _ (bR (bq _ _ _ rfl) 0 _ (by rw[aX,wX.out.1];decide))⟩
   generalize (wr.alloc (.cells Tryz.zeroCells372 372)).setCells wr.heap.size 0 RC.toList=w2 at*
   have HI3:Hid ((Tryz.prog.info? 372).map (·.size)=some RC.toList.length):=by rw[aX,wX.out.1];exact HI.out
   have ahc:=aV (HBT.out.below HW2.out.1);have ae8:=aV (tF.out.trans (HW2.out.1.mono tF.out.size));unfold Hid
   go_wp2_with (first
    | (refine nY rfl 372 (.tmp 5) rfl wr.heap.size 0 rfl RC.toList _ HW2.out.2 Tryz.underlying372 rfl HI3.out ?_;refine dO ?_)
    |fail)
   clear HI3 HW2 HBT tF HI2 NC;unfold Hid
   go_wp2_with fail
   refine(HBY.out w2).mono ?_;rintro e w3 ⟨rfl,hb3⟩;have aaH:=aV (ahc.out.below hb3);have Vm:=aV (ae8.out.trans (hb3.mono ae8.out.size))
   have HSZ:Hid ((gm (l.take j)).size<=102000000000000):=by
    have h1:=AP (l.take j) (fun x hx=>HOK.out x (PD hx))
    have h2:(l.take j).length<=1000000000000:=by rw[ic];omega
    show _<=_;omega
   have HBZ:Hid ((lZ r).size<=97):=by have h1:=Al Da.out.1;have h2:=Da.out.1.name;show _<=_;omega
   have Ew:Hid (gm (l.take (j+1))=gm (l.take j)++⟨#[UInt8.ofNat (lZ r).size]⟩++lZ r++lN (lZ r)):=by
    show _=_;rw[dU,Da.out.2];show gm (l.take j++[r])=_;rw[LA];unfold zT;rw[dN,dN,dN]
   clear hb3 ahc ae8 HBY wX;generalize gm (l.take j)=T at*;generalize lZ r=BB at*
   have bz:(BB.size:Int)<=97:=by have:=HBZ.out;omega
   go_wp2_with fail
   refine(xE w.heap.size T (UInt8.ofNat BB.size) _ ?_ w3 aaH.out (by have:=HSZ.out;omega)).mono ?_
   ·have:=HBZ.out
    simp;omega
   rintro e w4 ⟨rfl,hb4,hl4⟩;have ahd:=aV hb4;have Yo:=aV (Vm.out.trans hl4);clear hb4 hl4 aaH Vm
   go_wp2_with fail
   refine(rO w.heap.size _ BB w4 ahd.out (by have:=HSZ.out;have:=HBZ.out;rw[aL];show _+1+_<=_;omega)).mono ?_;rintro e w5 ⟨rfl,hb5,hl5⟩;have ahe:=aV hb5;have ae9:=aV (Yo.out.trans hl5)
   have HCR:Hid (∀wx,Calls Tryz.prog 251 #[.string BB] wx fun e w'=>e=.returned (.int .u32 (BO BB))/\w'=wx):=fun wx=>XQ BB (by have:=HBZ.out;omega) wx
   have HFB:Hid (∀wx,Calls Tryz.prog 250 #[.int .u32 (BO BB)] wx fun e w'=>e=.returned (.string (lN BB))/\Below wx.heap.size wx w'):=fun wx=>by
    have hcr:=XP BB;have h:=zq (BO BB).toNat aJ wx;rw[show(((BO BB).toNat:Nat):Int)=BO BB by omega] at h;exact h
   have HCZ:Hid ((lN BB).size=4):=rfl;clear hb5 hl5 ahd Yo;generalize lN BB=C2 at*;generalize BO BB=z at*
   go_wp2_with fail
   refine(HCR.out w5).mono ?_;rintro e y ⟨rfl,hy⟩;rw[hy];clear hy
   go_wp2_with fail
   refine(HFB.out w5).mono ?_;rintro e w6 ⟨rfl,hb6⟩;have ahf:=aV (ahe.out.below hb6);have aha:=aV (ae9.out.trans (hb6.mono ae9.out.size));clear hb6 ahe ae9 HCR HFB
   go_wp2_with fail
   refine(rO w.heap.size _ C2 w6 ahf.out (by have:=HSZ.out;have:=HBZ.out;have:=HCZ.out;rw[aL,aL];show _+1+_+_<=_;omega)).mono ?_;rintro e w7 ⟨rfl,Jm,hl7⟩
   have aj9:Hid (dW w7 w.heap.size (gm (l.take (j+1)))):=by rw[Ew.out];exact Jm
   have afa:=aV (aha.out.trans hl7);clear Jm hl7 ahf aha Ew
   go_wp2_with fail
   exact⟨⟨j+1,oW,aJ,aj9.out,afa.out⟩,by simp[intOf];omega⟩
  obtain rfl:j=L:=aJ
  have CU:Hid (Calls Tryz.prog 248 #[.pointer (some ⟨w.heap.size,0,none⟩)] wr fun e w'=>e=.returned (.string (gm l))/\Below w.heap.size wr w'):=by
   have h:=uX _ _ wr HBT.out;rw[bK (dG HL.out)] at h
   exact h.mono fun e w' ⟨h1,_,h3⟩=>⟨h1,h3⟩
  go_wp2_with fail
  refine CU.out.mono ?_;rintro e w7 ⟨rfl,hl7⟩;have afa:=aV (tF.out.trans hl7);clear hl7 CU
  go_wp2
  go_ret;exact⟨rfl,afa.out⟩
variable {fn:Func}{c:Tmp}{ty:TypeId}
theorem pX{u:Tmp}(h:fn.results=#[.cell c ty,.tmp u])(tmps:Array Value)(P:Program)(w:ak)(b o:Nat)(cs:List Value)(d:TypeDesc)(hp:tmps.getD c undef=.pointer (some ⟨b,o,none⟩))(hc:w.rangeAt b o cs)
  (hu:P.underlying ty=some d) (hd:d.isRow=true) (hi:(P.info? ty).map (·.size)=some cs.length):
  (results fn tmps).run P w=.ok (.tuple #[.agg cs.toArray,tmps.getD u undef]) w:=by
 have hl:=run_loadVar_mid (P:=P) w b o ty cs d hc hu hd hi
 have hp':tmps[c]?.getD undef=.pointer (some ⟨b,o,none⟩):=by simpa using hp
 simp only[results,h]
 simp[hp',asAddr,hl]
theorem zy{u v:Tmp}(h:fn.results=#[.cell c ty,.tmp u,.tmp v])(tmps:Array Value)(P:Program)(w:ak)(b o:Nat)(cs:List Value)(d:TypeDesc)(hp:tmps.getD c undef=.pointer (some ⟨b,o,none⟩))(hc:w.rangeAt b o cs)
  (hu:P.underlying ty=some d) (hd:d.isRow=true) (hi:(P.info? ty).map (·.size)=some cs.length):
  (results fn tmps).run P w=.ok (.tuple #[.agg cs.toArray,tmps.getD u undef,tmps.getD v undef]) w:=by
 have hl:=run_loadVar_mid (P:=P) w b o ty cs d hc hu hd hi
 have hp':tmps[c]?.getD undef=.pointer (some ⟨b,o,none⟩):=by simpa using hp
 simp only[results,h]
 simp[hp',asAddr,hl]
theorem uL(P:Program)(w:ak)(g:Nat)(t:TypeId)(row:Array Value)(vs:List Value)(hg:w.heap[g]?=some (.cells row t (0,0)))(hl:vs.length=row.size)(h1:∀v∈vs,v.oneCell'=true):
  (w.setCells g 0 vs).heap[g]?=some (.cells vs.toArray t (0,0)):=by
 have e1:=acM P g 0 t vs 0 row w hg aJ h1;have ht:=bR hg 0 vs.length aJ;have e2:=run_storeCells_cells (P:=P) g 0 vs 0 w (fun j hj=>(ht j hj).1) (fun j hj=>(ht j hj).2) h1;rw[e1] at e2;injection e2 with _ e3;rw[<-e3]
 have e4:(row.toList.take (0+0)++vs++row.toList.drop (0+0+vs.length))=vs:=by
  rw[yY (by rw[aX];omega)]
  simp
 rw[e4];exact setRow_heap w g _ _ t _ hg
theorem Qj(t:ah)(h:65<=t.size):(t.extract (t.size-64) t.size).extract 32 (t.extract (t.size-64) t.size).size=t.extract (t.size-32) t.size:=by
 rw[aM];apply ByteArray.ext;rw[gI,gI,gI,Array.extract_extract];rw[show t.size-64+32=t.size-32 by omega,show min (t.size-64+(min t.size t.size-(t.size-64))) t.size=t.size by omega]
theorem SA(t:ah)(h:65<=t.size):(t.extract (t.size-64) t.size).extract 0 32=t.extract (t.size-64) (t.size-32):=by
 apply ByteArray.ext;rw[gI,gI,gI,Array.extract_extract];rw[show t.size-64+0=t.size-64 by omega,show min (t.size-64+32) t.size=t.size-32 by omega]
def QY(o:Option gG)(e:Ending):Prop:=match o with
 |some r=>e=.returned (.tuple #[.agg (bJ r).toArray,.bool true])
 |none=>∃c:Array Value,c.size=65/\c.all (·.oneCell')=true/\e=.returned (.tuple #[.agg c,.bool false])
theorem Ra(t:ah)(ht:t.size<=1099511627776)(w:ak):
  Calls Tryz.prog 308 #[.string t] w fun e w'=>QY (qb t) e/\Below w.heap.size w w':=by
 have n0:(t.size:Int)<=1099511627776:=aJ
 have HI:Hid ((Tryz.prog.info? 372).map (·.size)=some 65):=by show _=_;kernel_rfl
 have HZ:Hid (Tryz.zeroCells372.size=65/\Tryz.zeroCells372.all (·.oneCell')=true):=⟨dD,dD⟩
 by_cases h0:t.size<65
 ·have HN:Hid (qb t=none):=aH h0
  have g0:(t.size:Int)<65:=aJ
  have g1:(t.size:Int)-1-64<0:=aJ
  go_enter Tryz.func308,Tryz.ntmps308
  go_wp2_with (first
   | (generalize Tryz.zeroCells372=Z at*;refine cK rfl 372 (.tmp 2) (.tmp 21) rfl w.heap.size 0 Z rfl rfl (bR (bq _ _ _ rfl) 0 _ (by rw[HZ.out.1];decide)) (by rw[HZ.out.1];exact HI.out) HZ.out.2 ?_;refine dO ?_)
   |fail)
  have HW2:Hid (Below w.heap.size w ((w.alloc (.cells Z 372)).setCells w.heap.size 0 Z.toList)/\((w.alloc (.cells Z 372)).setCells w.heap.size 0 Z.toList).rangeAt w.heap.size 0 Z.toList):=by
   refine⟨jo _ _ ((ay _ _).alloc (ai _) _) (ai _),eF _ _ _ _ (bR (bq _ _ _ rfl) 0 _ (by rw[aX,HZ.out.1];decide))⟩
  generalize (w.alloc (.cells Z 372)).setCells w.heap.size 0 Z.toList=w2 at*;unfold Hid
  go_wp2_with fail
  refine bV (pX rfl _ _ _ w.heap.size 0 Z.toList _ rfl HW2.out.2 Tryz.underlying372 rfl (by rw[aX,HZ.out.1];exact HI.out)) rfl ?_;rw[HN.out];exact⟨⟨_,by rw[dw];exact HZ.out.1,by rw[dw];exact HZ.out.2,rfl⟩,HW2.out.1⟩
 have hidx:∀wx,(Instr.index 9 (.string t) (.int .i64 0)).run Tryz.prog wx=.ok (.int .u8 (byteOf t 0)) wx:=fun wx=>kI t 0 aJ wx
 have hbl:=xG t 0;have HS:Hid (qb t=if byteOf t 0≠t.size-65 then none else if eU (t.extract 1 (t.size-64))=true then some ⟨t.extract 1 (t.size-64),t.extract (t.size-64) (t.size-32),t.extract (t.size-32) t.size⟩ else none):=aA h0
 have g0:¬(t.size:Int)-1-64<0:=aJ
 generalize byteOf t 0=b at*
 by_cases h1:b≠t.size-65
 ·have HN:=aV (HS.out.trans (aH h1))
  have g1:((b:Int)==(t.size:Int)-1-64)=false:=by rw[lD];omega
  clear HS
  go_enter Tryz.func308,Tryz.ntmps308
  go_wp2_with (first
   | (generalize Tryz.zeroCells372=Z at*;refine cK rfl 372 (.tmp 2) (.tmp 21) rfl w.heap.size 0 Z rfl rfl (bR (bq _ _ _ rfl) 0 _ (by rw[HZ.out.1];decide)) (by rw[HZ.out.1];exact HI.out) HZ.out.2 ?_;refine dO ?_)
   |fail)
  have HW2:Hid (Below w.heap.size w ((w.alloc (.cells Z 372)).setCells w.heap.size 0 Z.toList)/\((w.alloc (.cells Z 372)).setCells w.heap.size 0 Z.toList).rangeAt w.heap.size 0 Z.toList):=by
   refine⟨jo _ _ ((ay _ _).alloc (ai _) _) (ai _),eF _ _ _ _ (bR (bq _ _ _ rfl) 0 _ (by rw[aX,HZ.out.1];decide))⟩
  generalize (w.alloc (.cells Z 372)).setCells w.heap.size 0 Z.toList=w2 at*;unfold Hid
  go_wp2_with fail
  refine bV (pX rfl _ _ _ w.heap.size 0 Z.toList _ rfl HW2.out.2 Tryz.underlying372 rfl (by rw[aX,HZ.out.1];exact HI.out)) rfl ?_;rw[HN.out];exact⟨⟨_,by rw[dw];exact HZ.out.1,by rw[dw];exact HZ.out.2,rfl⟩,HW2.out.1⟩
 have HS2:=aV (HS.out.trans (aA h1))
 have g1:((b:Int)==(t.size:Int)-1-64)=true:=by rw[beq_iff_eq];omega
 clear HS;have HZR:Hid (∃Y:List Value,Tryz.zeroCells372.toList=.string ⟨#[]⟩::Y/\Y.length=64):=⟨Tryz.zeroCells372.toList.tail,dD,dD⟩
 have s1:∀wx,(Instr.slice 9 (.string t) (some (.int .i64 1)) (some (.int .i64 (1+((t.size:Int)-1-64)))) none).run Tryz.prog wx=.ok (.string (t.extract 1 (t.size-64))) wx:=fun wx=>GR t 1 (t.size-64) _ _ rfl aJ aJ aJ wx
 have s2:∀wx,(Instr.slice 9 (.string t) (some (.int .i64 (1+((t.size:Int)-1-64)))) none none).run Tryz.prog wx=.ok (.string (t.extract (t.size-64) t.size)) wx:=fun wx=>El t (t.size-64) _ aJ aJ wx
 have s3:∀wx,(Instr.slice 9 (.string (t.extract (t.size-64) t.size)) (some (.int .i64 32)) none none).run Tryz.prog wx=.ok (.string (t.extract (t.size-32) t.size)) wx:=fun wx=>by
  rw[El (t.extract (t.size-64) t.size) 32 32 rfl (by rw[aM];omega) wx,Qj t aJ]
 generalize hN:t.extract 1 (t.size-64)=N at*;generalize hR:t.extract (t.size-64) t.size=R at*;generalize hM:t.extract (t.size-32) t.size=M at*
 go_enter Tryz.func308,Tryz.ntmps308
 go_wp2_with fail
 have HA:Hid (Below w.heap.size w (w.alloc (.cells Tryz.zeroCells372 372))/\(w.alloc (.cells Tryz.zeroCells372 372)).heap[w.heap.size]?=some (.cells Tryz.zeroCells372 372 (0,0))):=⟨(ay _ _).alloc (ai _) _,bq _ _ _ rfl⟩;generalize w.alloc (.cells Tryz.zeroCells372 372)=w1 at*
 go_quiet (fail)
 have HQ:Hid (Below w1.heap.size w1 (w1.drewN nq)):=below_drewN (ay _ _) nq;generalize w1.drewN nq=w2 at*;have HA2:Hid (Below w.heap.size w w2/\w2.heap[w.heap.size]?=some (.cells Tryz.zeroCells372 372 (0,0))):=⟨HA.out.1.trans (HQ.out.mono HA.out.1.size),(HQ.out.block _ (gQ.1 HA.out.2).1).trans HA.out.2⟩;clear HA HQ s1 s2 hidx g1 g0;obtain⟨Y,hY,hYl⟩:=HZR.out
 have HY:Hid (Y.length=64/\∀v∈Y,v.oneCell'=true):=⟨hYl,fun v hv=>by
  have h:=kU.1 HZ.out.2 v (by rw[<-uS,hY];exact aZ _ hv)
  exact h⟩
 have hZY:∀x:Value,Tryz.zeroCells372.setIfInBounds 0 x=(x::Y).toArray:=fun x=>by
  apply fJ.1;rw[Dx,hY];rfl
 have HY1:Hid (∀v∈Value.string N::Y,v.oneCell'=true):=fun v hv=>by
  rcases bg.1 hv with rfl|hv
  ·rfl
  exact HY.out.2 v hv
 clear hY hYl HZR
 go_wp2_with (first
  | (generalize Tryz.zeroCells372=Z at*;refine cK rfl 372 (.tmp 7) (.tmp 31) rfl w2.heap.size 0 (.string N::Y).toArray rfl rfl (bR (bq _ _ _ rfl) 0 _ (by rw[HZ.out.1,bZ,aY,HY.out.1];decide)) (by rw[bZ,aY,HY.out.1];exact HI.out) (eH HY1.out) ?_;refine dO ?_)
  |fail)
 have HW3:Hid (Below w2.heap.size w2 ((w2.alloc (.cells Z 372)).setCells w2.heap.size 0 (Value.string N::Y))/\((w2.alloc (.cells Z 372)).setCells w2.heap.size 0 (Value.string N::Y)).heap[w2.heap.size]?=some (.cells (Value.string N::Y).toArray 372 (0,0))):=by
  refine⟨jo _ _ ((ay _ _).alloc (ai _) _) (ai _),uL Tryz.prog _ _ _ Z _ (bq _ _ _ rfl) (by rw[aY,HY.out.1,HZ.out.1]) HY1.out⟩
 generalize (w2.alloc (.cells Z 372)).setCells w2.heap.size 0 (Value.string N::Y)=w3 at*;have Nz:Hid (Below w.heap.size w w3/\w3.heap[w.heap.size]?=some (.cells Z 372 (0,0))/\w.heap.size<w2.heap.size):=⟨HA2.out.1.trans (HW3.out.1.mono HA2.out.1.size),(HW3.out.1.block _ (gQ.1 HA2.out.2).1).trans HA2.out.2,(gQ.1 HA2.out.2).1⟩;have Ms:Hid (R.size=64/\M.size=32):=⟨by rw[<-hR,aM];omega,by rw[<-hM,aM];omega⟩;generalize w2.heap.size=g at*;clear HA2 hZY;unfold Hid
 go_wp2_with (first
  | (refine Jd rfl (.tmp 33) (.tmp 34) 219 9 rfl 5 dD dD g 1 32 32 R rfl rfl 372 _ HW3.out.2 (by rw[Ms.out.1];decide) (by rw[aY,HY.out.1];decide) (fun w4 hc hk hbl=>?_);refine dO ?_)
  |fail)
 have HC4:Hid (w4.heap[g]?=some (.cells (Value.string N::(Lib.strCells (R.extract 0 32)++Y.drop 32)).toArray 372 (0,0))):=by rw[<-abU];exact hc
 have HA4:Hid (Below w.heap.size w w4/\w4.heap[w.heap.size]?=some (.cells Z 372 (0,0))):=⟨hbl.out _ _ Nz.out.1 (iR Nz.out.2.2),(hk.out _ (Nat.ne_of_lt Nz.out.2.2)).trans Nz.out.2.1⟩;clear hc hk hbl HW3;unfold Hid
 go_wp2_with fail
 refine dJ (S:=fun w'=>Below w.heap.size w w') dD ?_;change wpAnyH _ _ _ _ _ _ _ _ (World.drew _);obtain⟨wd,hwd⟩:∃wd,wd=w4.drew:=⟨_,rfl⟩;rw[<-hwd]
 have gX:Hid (Below w.heap.size w wd):=by rw[hwd];exact HA4.out.1.drew
 have HCd:Hid (wd.heap[g]?=some (.cells (Value.string N::(Lib.strCells (R.extract 0 32)++Y.drop 32)).toArray 372 (0,0))/\wd.heap[w.heap.size]?=some (.cells Z 372 (0,0))):=by rw[hwd];exact⟨HC4.out,HA4.out.2⟩
 clear hwd HC4 HA4;refine uC 0 (.pointer (some ⟨g,33,none⟩)) rfl gX.out<|uC 1 (.slice (some ⟨g,33,none⟩) 32 32) rfl gX.out<|uC 2 (.string R) rfl gX.out<|uC 3 (.string M) rfl gX.out ?_
 refine rH 4 rfl fun K hK=>?_
 rw[aH dD];refine Va (.tmp 37) (.tmp 39) 219 9 rfl 5 dD dD g 33 32 32 M rfl rfl 372 _ HCd.out.1 (by rw[Ms.out.2];decide) (by rw[aY,aI,vS,HY.out.1,Lib.strCells_length,aM,Ms.out.1];decide) (fun w5 hc hk hbl=>?_);have Bq:Hid (Below w.heap.size w w5):=hbl.out _ _ gX.out (iR Nz.out.2.2);refine hK.out _ _ Bq.out (fun _=>?_);clear hK K;have HC5:Hid (w5.heap[g]?=some (.cells (bJ ⟨N,R.extract 0 32,M⟩).toArray 372 (0,0))/\w5.heap[w.heap.size]?=some (.cells Z 372 (0,0))):=⟨by rw[<-abV N (R.extract 0 32) M (Y.drop 32) (by rw[vS,HY.out.1]) (by rw[aM,Ms.out.1];decide) Ms.out.2];exact hc.out,(hk.out _ (Nat.ne_of_lt Nz.out.2.2)).trans HCd.out.2⟩
 have Bt:Hid ((bJ ⟨N,R.extract 0 32,M⟩).length=65/\∀u∈bJ ⟨N,R.extract 0 32,M⟩,u.oneCell'=true):=⟨by
  show(Lib.strCells (R.extract 0 32)++Lib.strCells M).length+1=65
  rw[aI,Lib.strCells_length,Lib.strCells_length,aM,Ms.out.1,Ms.out.2];decide,lS _⟩
 have Bc:Hid (QY (qb t) (.returned (.tuple #[.agg (bJ ⟨N,R.extract 0 32,M⟩).toArray,.bool (eU N)]))):=by
  show QY _ _;rw[HS2.out,<-SA t aJ,hR]
  cases hq:eU N with
  |true=>exact rfl
  |false=>exact⟨_,by rw[bZ];exact Bt.out.1,eH Bt.out.2,rfl⟩
 clear hc hk hbl HCd gX HY HY1 HS2 hN hR hM s3;generalize bJ ⟨N,R.extract 0 32,M⟩=RC at*;refine eX dD ?_ _
 go_wp2_with fail
 refine dJ (S:=fun w'=>Below w.heap.size w w'/\w'.rangeAt g 0 RC) dD ?_;change wpAnyH _ _ _ _ _ _ _ _ (World.drew _);obtain⟨wd,hwd⟩:∃wd,wd=w5.drew:=⟨_,rfl⟩;rw[<-hwd]
 have HCd:Hid (wd.heap[w.heap.size]?=some (.cells Z 372 (0,0))):=by rw[hwd];exact HC5.out.2
 have gX:Hid (Below w.heap.size w wd/\wd.rangeAt g 0 RC):=by
  rw[hwd];refine⟨Bq.out.drew,fun j u hu=>?_⟩;have h5:w5.drew.heap[g]?=some (.cells RC.toArray 372 (0,0)):=HC5.out.1;rw[aj _ _ _ _ _ _ h5]
  simpa using hu
 clear hwd Bq HC5;refine kJ (i:=0) rfl dD dD dD (fun _ _ _ h=>h) (acO dD 372 (.tmp 7) rfl g 0 rfl RC _ (fun w' h=>h.2) Tryz.underlying372 rfl (by rw[Bt.out.1];exact HI.out)) gX.out ?_;refine uC 1 (.string N) rfl gX.out ?_
 refine rH 2 rfl fun K hK=>?_
 go_simp;refine(sK N _).mono ?_;rintro e y ⟨rfl,hy⟩;rw[hy];clear hy;refine hK.out _ _ gX.out (fun _=>?_);clear hK K
 refine rH 3 rfl fun K hK=>?_
 rw[aH dD];refine wp_store_mid 372 (.tmp 2) (.tmp 41) rfl w.heap.size 0 RC.toArray rfl rfl (bR HCd.out 0 _ (by rw[bZ,Bt.out.1,HZ.out.1];decide)) (by rw[bZ,Bt.out.1];exact HI.out) (eH Bt.out.2) ?_
 have FP:Hid ((Below w.heap.size w (wd.setCells w.heap.size 0 RC)/\(wd.setCells w.heap.size 0 RC).rangeAt g 0 RC)/\(wd.setCells w.heap.size 0 RC).rangeAt w.heap.size 0 RC):=by
  refine⟨⟨jo _ _ gX.out.1 (ai _),World.rangeAt_setCells_apart gX.out.2 _ _ _ (aK (Nat.ne_of_gt Nz.out.2.2))⟩,eF _ _ _ _ (bR HCd.out 0 _ (by rw[Bt.out.1,HZ.out.1];decide))⟩
 change K _ (wd.setCells w.heap.size 0 RC);generalize wd.setCells w.heap.size 0 RC=w6 at*;refine hK.out _ _ FP.out.1 (fun _=>?_);clear hK K gX HCd;have gX:=aV FP.out.1;refine uC 4 (.bool (eU N)) rfl gX.out ?_;refine eX dD ?_ _;generalize eU N=q at*
 go_wp2_with fail
 refine bV (pX rfl _ _ _ w.heap.size 0 RC _ rfl FP.out.2 Tryz.underlying372 rfl (by rw[Bt.out.1];exact HI.out)) rfl ?_;exact⟨Bc.out,FP.out.1.1⟩
def VJ(o:Option (ah×ah))(e:Ending):Prop:=match o with
 |some x=>e=.returned (.tuple #[.string x.1,.string x.2,.bool true])
 |none=>∃a b,e=.returned (.tuple #[.string a,.string b,.bool false])
theorem Sd(t:ah)(ht:t.size<=1099511627776)(w:ak):
  Calls Tryz.prog 307 #[.string t] w fun e w'=>VJ (mg t) e/\Below w.heap.size w w':=by
 have HB0:Hid (Below w.heap.size w w):=ay _ _
 have n0:(t.size:Int)<=1099511627776:=aJ
 by_cases h0:t.size=0
 ·have HN:Hid (mg t=none):=aH h0
  have he:t.toList.isEmpty=true:=by rw[qR];exact bT h0
  go_enter Tryz.func307,Tryz.ntmps307
  go_wp2
  go_ret3;rw[HN.out];exact⟨⟨_,_,rfl⟩,HB0.out⟩
 have he:t.toList.isEmpty=false:=by rw[qR];exact bM h0
 have hidx:∀wx,(Instr.index 9 (.string t) (.int .i64 0)).run Tryz.prog wx=.ok (.int .u8 (byteOf t 0)) wx:=fun wx=>kI t 0 aJ wx
 have hb:=xG t 0;have HS:Hid (mg t=if t.size<1+byteOf t 0+4 then none else if t.extract (1+byteOf t 0) (1+byteOf t 0+4)=lN (t.extract 1 (1+byteOf t 0)) then some (t.extract 1 (1+byteOf t 0),t.extract (1+byteOf t 0+4) t.size) else none):=aA h0;generalize byteOf t 0=b at*
 by_cases h1:t.size<1+b+4
 ·have HN:=aV (HS.out.trans (aH h1))
  have g1:(t.size:Int)<1+(b:Int)+4:=aJ
  clear HS
  go_enter Tryz.func307,Tryz.ntmps307
  go_wp2
  go_ret3;rw[HN.out];exact⟨⟨_,_,rfl⟩,HB0.out⟩
 have HS2:=aV (HS.out.trans (aA h1))
 have g1:¬(t.size:Int)<1+(b:Int)+4:=aJ
 have s1:∀wx,(Instr.slice 9 (.string t) (some (.int .i64 1)) (some (.int .i64 (1+(b:Int)))) none).run Tryz.prog wx=.ok (.string (t.extract 1 (1+b))) wx:=fun wx=>GR t 1 (1+b) _ _ rfl aJ aJ aJ wx
 have s2:∀wx,(Instr.slice 9 (.string t) (some (.int .i64 (1+(b:Int)+4))) none none).run Tryz.prog wx=.ok (.string (t.extract (1+b+4) t.size)) wx:=fun wx=>El t (1+b+4) _ aJ aJ wx
 have s3:∀wx,(Instr.slice 9 (.string t) (some (.int .i64 (1+(b:Int)))) (some (.int .i64 (1+(b:Int)+4))) none).run Tryz.prog wx=.ok (.string (t.extract (1+b) (1+b+4))) wx:=fun wx=>GR t (1+b) (1+b+4) _ _ aJ aJ aJ aJ wx
 have HB:Hid ((t.extract 1 (1+b)).size<=1099511627776):=by show _<=_;rw[aM];omega
 clear HS;generalize t.extract 1 (1+b)=B1 at*;generalize t.extract (1+b+4) t.size=R1 at*;generalize t.extract (1+b) (1+b+4)=C1 at*
 go_enter Tryz.func307,Tryz.ntmps307
 go_wp2_with fail
 go_quiet (fail)
 have HBq:Hid (Below w.heap.size w (w.drewN nq)):=below_drewN (ay _ _) nq;generalize w.drewN nq=w1 at*
 go_wp2_with fail
 refine dJ (S:=fun w'=>Below w.heap.size w w') dD ?_;change wpAnyH _ _ _ _ _ _ _ _ (World.drew _);obtain⟨wd,hwd⟩:∃wd,wd=w1.drew:=⟨_,rfl⟩;rw[<-hwd]
 have gX:Hid (Below w.heap.size w wd):=by rw[hwd];exact HBq.out.drew
 clear hwd
 have hwr:IntKind.i64.wrap (1+(b:Int)+4)=1+(b:Int)+4:=by rw[gP];omega
 refine uC 0 (.string B1) rfl gX.out<|uC 1 (.string R1) rfl gX.out<|uC 2 (.string t) rfl gX.out<|uC 3 (.int .i64 (1+(b:Int))) rfl gX.out<|uC 4 (.int .i64 (1+(b:Int))) rfl gX.out<|uC 5 (.int .i64 (1+(b:Int)+4)) rfl gX.out<|uC 6 (.string C1) rfl gX.out<|uC 7 (.string B1) rfl gX.out ?_;have hcr:=XP B1
 have HCR:Hid (∀wx,Calls Tryz.prog 251 #[.string B1] wx fun e w'=>e=.returned (.int .u32 (BO B1))/\w'=wx):=fun wx=>XQ B1 HB.out wx
 have HFB:Hid (∀wx,Calls Tryz.prog 250 #[.int .u32 (BO B1)] wx fun e w'=>e=.returned (.string (lN B1))/\Below wx.heap.size wx w'):=fun wx=>by
  have h:=zq (BO B1).toNat aJ wx;rw[show(((BO B1).toNat:Nat):Int)=BO B1 by omega] at h;exact h
 clear hcr;generalize BO B1=z at*;generalize lN B1=C2 at*
 refine rH 8 rfl fun K hK=>?_
 go_simp;refine(HCR.out _).mono ?_;rintro e y ⟨rfl,hy⟩;rw[hy];clear hy;refine hK.out _ _ gX.out (fun _=>?_);clear hK K
 refine rH 9 rfl fun K hK=>?_
 go_simp;refine(HFB.out _).mono ?_;rintro e w3 ⟨rfl,hb3⟩;have HB3:=aV (gX.out.trans (hb3.mono gX.out.size));refine hK.out _ _ HB3.out (fun _=>?_);clear hK K hb3 gX;have gX:=HB3;refine uC 10 (.bool (C1.toList==C2.toList)) rfl gX.out<|uC 11 (.string B1) rfl gX.out<|uC 12 (.string R1) rfl gX.out<|uC 13 (.bool (C1.toList==C2.toList)) rfl gX.out ?_;refine eX dD ?_ _
 have Bc:Hid (VJ (mg t) (.returned (.tuple #[.string B1,.string R1,.bool (C1.toList==C2.toList)]))):=by
  cases hq:(C1.toList==C2.toList) with
  |true=>
   rw[HS2.out,aH (xL hq)];exact rfl
  |false=>
   rw[HS2.out,aA (fun e=>by rw[e] at hq;simp at hq)];exact⟨_,_,rfl⟩
 clear HS2;generalize (C1.toList==C2.toList)=cq at*
 go_wp2_with fail
 go_ret3;exact⟨Bc.out,gX.out⟩
theorem Eh(h1:r.sig.size=32)(h2:r.sum.size=32):(bJ r).length=65:=by
 show(Lib.strCells r.sig++Lib.strCells r.sum).length+1=65;rw[aI,Lib.strCells_length,Lib.strCells_length,h1,h2]
def Gh(o:Option (gG×ah))(e:Ending):Prop:=match o with
 |some x=>e=.returned (.tuple #[.agg (bJ x.1).toArray,.string x.2,.bool true])
 |none=>∃(c:Array Value) (b:ah),c.size=65/\c.all (·.oneCell')=true/\e=.returned (.tuple #[.agg c,.string b,.bool false])
theorem QZ{b:ah}(hr:qb b=some r):(bJ r).length=65:=by
 unfold qb at hr
 split at hr
 ·cases hr
 split at hr
 ·cases hr
 split at hr
 ·have e:=ax hr;rw[<-e];refine Eh ?_ ?_
  ·simp only[aM];omega
  simp only[aM];omega
 cases hr
theorem MW(t:ah)(ht:t.size<=1099511627776)(w:ak):
  Calls Tryz.prog 240 #[.string t] w fun e w'=>Gh (oU t) e/\Below w.heap.size w w':=by
 have HI:Hid ((Tryz.prog.info? 372).map (·.size)=some 65):=by show _=_;kernel_rfl
 have HZ:Hid (Tryz.zeroCells372.size=65/\Tryz.zeroCells372.all (·.oneCell')=true):=⟨dD,dD⟩
 have HC:Hid (∀wx,Calls Tryz.prog 307 #[.string t] wx fun e w'=>VJ (mg t) e/\Below wx.heap.size wx w'):=fun wx=>Sd t ht wx
 have HS:Hid (oU t=(mg t).bind fun x=>(qb x.1).map fun r=>(r,x.2)):=rfl
 have HZB:Hid (∀x,mg t=some x->x.1.size<=1099511627776):=fun x hx=>by
  unfold mg at hx
  split at hx
  ·cases hx
  split at hx
  ·cases hx
  split at hx
  ·have e:=ax hx;rw[<-e];simp only[aM];omega
  cases hx
 go_enter Tryz.func240,Tryz.ntmps240
 go_wp2_with fail
 have HA:Hid (Below w.heap.size w (w.alloc (.cells Tryz.zeroCells372 372))/\(w.alloc (.cells Tryz.zeroCells372 372)).heap[w.heap.size]?=some (.cells Tryz.zeroCells372 372 (0,0))):=⟨(ay _ _).alloc (ai _) _,bq _ _ _ rfl⟩;generalize w.alloc (.cells Tryz.zeroCells372 372)=w1 at*;refine(HC.out w1).mono ?_;rintro e w2 ⟨he,hb2⟩;have HA2:Hid (Below w.heap.size w w2/\w2.heap[w.heap.size]?=some (.cells Tryz.zeroCells372 372 (0,0))):=⟨HA.out.1.trans (hb2.mono HA.out.1.size),(hb2.block _ (gQ.1 HA.out.2).1).trans HA.out.2⟩;clear HA HC hb2
 cases hcb:mg t with
 |none=>
  rw[hcb] at he;obtain⟨a,b,rfl⟩:=he
  have HN:Hid (oU t=none):=by show _=_;rw[HS.out,hcb];rfl
  clear hcb HS HZB
  go_wp2_with (first
   | (generalize Tryz.zeroCells372=Z at*;refine cK rfl 372 (.tmp 2) (.tmp 15) rfl w.heap.size 0 Z rfl rfl (bR HA2.out.2 0 _ (by rw[HZ.out.1];decide)) (by rw[HZ.out.1];exact HI.out) HZ.out.2 ?_;refine dO ?_)
   |fail)
  have HW2:Hid (Below w.heap.size w (w2.setCells w.heap.size 0 Z.toList)/\(w2.setCells w.heap.size 0 Z.toList).rangeAt w.heap.size 0 Z.toList):=⟨jo _ _ HA2.out.1 (ai _),eF _ _ _ _ (bR HA2.out.2 0 _ (by rw[aX,HZ.out.1];decide))⟩;generalize w2.setCells w.heap.size 0 Z.toList=w3 at*;unfold Hid
  go_wp2_with fail
  refine bV (zy rfl _ _ _ w.heap.size 0 Z.toList _ rfl HW2.out.2 Tryz.underlying372 rfl (by rw[aX,HZ.out.1];exact HI.out)) rfl ?_;rw[HN.out];exact⟨⟨_,_,by rw[dw];exact HZ.out.1,by rw[dw];exact HZ.out.2,rfl⟩,HW2.out.1⟩
 |some x=>
  rw[hcb] at he;have he':e=.returned (.tuple #[.string x.1,.string x.2,.bool true]):=he;subst he';clear he
  have HF:Hid (∀wx,Calls Tryz.prog 308 #[.string x.1] wx fun e w'=>QY (qb x.1) e/\Below wx.heap.size wx w'):=fun wx=>Ra x.1 (HZB.out x hcb) wx
  have HS2:Hid (oU t=(qb x.1).map fun r=>(r,x.2)):=by show _=_;rw[HS.out,hcb];rfl
  clear hcb HS HZB;generalize Tryz.zeroCells372=Z at*
  go_wp2_with fail
  refine(HF.out w2).mono ?_;rintro e w3 ⟨he,hb3⟩;have Nz:Hid (Below w.heap.size w w3/\w3.heap[w.heap.size]?=some (.cells Z 372 (0,0))):=⟨HA2.out.1.trans (hb3.mono HA2.out.1.size),(hb3.block _ (gQ.1 HA2.out.2).1).trans HA2.out.2⟩
  obtain⟨c,q,rfl,hc1,hc2,hfn⟩:∃(c:Array Value) (q:Bool),e=.returned (.tuple #[.agg c,.bool q])/\c.size=65/\c.all (·.oneCell')=true/\Gh (oU t) (.returned (.tuple #[.agg c,.string x.2,.bool q])):=by
   rw[HS2.out]
   cases hr:qb x.1 with
   |none=>
    rw[hr] at he;obtain⟨c,h1,h2,rfl⟩:=he;exact⟨c,false,rfl,h1,h2,c,x.2,h1,h2,rfl⟩
   |some r=>
    rw[hr] at he;have he':e=.returned (.tuple #[.agg (bJ r).toArray,.bool true]):=he;have hl:(bJ r).length=65:=QZ hr;exact⟨_,true,he',by rw[bZ];exact hl,eH (lS r),rfl⟩
  have HCC:Hid ((c.size=65/\c.all (·.oneCell')=true)/\Gh (oU t) (.returned (.tuple #[.agg c,.string x.2,.bool q]))):=⟨⟨hc1,hc2⟩,hfn⟩;clear hb3 HA2 HF HS2 hc1 hc2 hfn he
  go_wp2_with (first
   | (refine cK rfl 372 (.tmp 2) (.tmp 19) rfl w.heap.size 0 c rfl rfl (bR Nz.out.2 0 _ (by rw[HCC.out.1.1,HZ.out.1];decide)) (by rw[HCC.out.1.1];exact HI.out) HCC.out.1.2 ?_;refine dO ?_)
   |fail)
  have HW4:Hid (Below w.heap.size w (w3.setCells w.heap.size 0 c.toList)/\(w3.setCells w.heap.size 0 c.toList).rangeAt w.heap.size 0 c.toList/\(w3.setCells w.heap.size 0 c.toList).there w.heap.size 0 c.toList.length):=⟨jo _ _ Nz.out.1 (ai _),eF _ _ _ _ (bR Nz.out.2 0 _ (by rw[aX,HCC.out.1.1,HZ.out.1];decide)),World.there_setCells (bR Nz.out.2 0 _ (by rw[aX,HCC.out.1.1,HZ.out.1];decide)) _ _ _⟩;generalize w3.setCells w.heap.size 0 c.toList=w4 at*;unfold Hid
  go_wp2_with (first
   | (refine nY rfl 372 (.tmp 2) rfl w.heap.size 0 rfl c.toList _ HW4.out.2.1 Tryz.underlying372 rfl (by rw[aX,HCC.out.1.1];exact HI.out) ?_;refine dO ?_)
   |fail)
  rw[dw];unfold Hid
  go_wp2_with (first
   | (refine cK rfl 372 (.tmp 2) (.tmp 21) rfl w.heap.size 0 c rfl rfl HW4.out.2.2 (by rw[HCC.out.1.1];exact HI.out) HCC.out.1.2 ?_;refine dO ?_)
   |fail)
  have HW5:Hid (Below w.heap.size w (w4.setCells w.heap.size 0 c.toList)/\(w4.setCells w.heap.size 0 c.toList).rangeAt w.heap.size 0 c.toList):=⟨jo _ _ HW4.out.1 (ai _),eF _ _ _ _ HW4.out.2.2⟩;generalize w4.setCells w.heap.size 0 c.toList=w5 at*;unfold Hid
  go_wp2_with fail
  refine bV (zy rfl _ _ _ w.heap.size 0 c.toList _ rfl HW5.out.2 Tryz.underlying372 rfl (by rw[aX,HCC.out.1.1];exact HI.out)) rfl ?_;rw[dw];exact⟨HCC.out.2,HW5.out.1⟩
theorem Wm(b n k cap:Nat)(ao:Option Addr)(w:ak)(h0:w.cell? ⟨b,0,none⟩=some (.int .i64 n))(h1:w.cell? ⟨b,1,none⟩=some (.slice ao k cap))(hn:n<=1099511627776)(hk:k<=1099511627776):
  Calls Tryz.prog 100 #[.pointer (some ⟨b,0,none⟩)] w fun e w'=>e=.returned (.bool (decide (2*k+8<n)))/\Below w.heap.size w w':=by
 have n0:(n:Int)<=1099511627776:=aJ
 have k0:(k:Int)<=1099511627776:=aJ
 have HD:Hid (decide (2*k+8<n)=decide (2*(k:Int)+8<(n:Int))):=by
  show _=_;rw[decide_eq_decide];omega
 go_enter Tryz.func100,Tryz.ntmps100
 go_wp2_with fail
 go_quiet (fail)
 have HQ:Hid (Below w.heap.size w (w.drewN nq)):=below_drewN (ay _ _) nq;generalize w.drewN nq=w1 at*
 go_wp2_with fail
 go_ret;exact⟨by rw[HD.out];rfl,HQ.out⟩
end
section
open Go.RowKit Go.Maps
def NU:Value->Option (DataW Unit)
 |.string s=>some (.lit (.string s.data.toList))
 |.int k n=>some (.lit (.int k n))
 |_=>none
variable {v v':Value}{d:DataW Unit}
theorem YO(h:NU v=some d)(h':NU v'=some d):v=v':=by
 cases v<;>simp only[NU,Option.some.injEq,reduceCtorEq] at h<;>cases v'<;>simp only[NU,Option.some.injEq,reduceCtorEq] at h'<;>subst h<;>injection h' with h'<;>injection h'
 ·rename_i a b
  rw[a,b]
 rename_i a
 rw[ByteArray.ext (fJ.1 a)]
def xV:List Value->Option (List (DataW Unit))
 |[]=>some []
 |v::l=>match NU v,xV l with
   |some d,some r=>some (d::r)
   |_,_=>none
theorem JW:∀{l l':List Value} {d:List (DataW Unit)},xV l=some d->xV l'=some d->l=l'
 |[],[],_,_,_=>rfl
 |[],v::l,d,h,h'=>by
  have e:d=[]:=(ax h).symm;subst e;unfold xV at h'
  split at h'
  ·cases h'
  cases h'
 |v::l,[],d,h,h'=>by
  have e:d=[]:=(ax h').symm;subst e;unfold xV at h
  split at h
  ·cases h
  cases h
 |v::l,v'::l',d,h,h'=>by
  unfold xV at h h'
  split at h
  ·rename_i d1 r1 e1 e2
   split at h'
   ·rename_i d2 r2 f1 f2
    have g:=(ax h).trans (ax h').symm;injection g with g1 g2;rw[YO e1 (g1▸f1),JW e2 (g2▸f2)]
   cases h'
  cases h
def ab3:Value->Option (DataW Unit×List MemPlace)
 |.agg cs=>(xV cs.toList).map fun l=>(.agg l,[])
 |_=>none
theorem ab4{p p':List MemPlace}(h:ab3 v=some (d,p))(h':ab3 v'=some (d,p')):v=v':=by
 cases v<;>simp only[ab3,reduceCtorEq] at h
 cases v'<;>simp only[ab3,reduceCtorEq] at h'
 rename_i cs cs'
 obtain⟨l,e1,e2⟩:=bA.1 h;obtain⟨l',f1,f2⟩:=bA.1 h';injection e2 with e2 _;injection f2 with f2 _;rw[<-f2] at e2;injection e2 with e2;rw[fJ.1 (JW e1 (e2▸f1))]
def GJ:zF:=⟨ab3,ab4⟩
theorem BK:∀l:List Value,(∀v∈l,∃d,NU v=some d)->∃d,xV l=some d
 |[],_=>⟨[],rfl⟩
 |v::l,h=>by
  obtain⟨d,hd⟩:=h v (aQ ..);obtain⟨r,hr⟩:=BK l (fun x hx=>h x (aZ _ hx));refine⟨d::r,?_⟩;unfold xV;rw[hd,hr]
theorem ab1(r:gG):∃d p,GJ.R (.agg (bJ r).toArray)=some (d,p):=by
 obtain⟨l,hl⟩:=BK (bJ r) (fun v hv=>by
  rcases bg.1 hv with rfl|hv
  ·exact⟨_,rfl⟩
  rcases bQ.1 hv with hv|hv<;>(obtain⟨y,_,rfl⟩:=fP.1 hv;exact⟨_,rfl⟩))
 refine⟨.agg l,[],?_⟩;show(xV (bJ r)).map _=_;rw[hl];rfl
end
structure kD where
 count:Nat
 names:List ah
 last:ah->Option gG
def kD.none:kD:=⟨0,[],fun _=>.none⟩
def jd(L:kD)(r:gG):kD:=⟨L.count+1,if (L.last r.name).isSome=true then L.names else L.names++[r.name],fun y=>if y=r.name then some r else L.last y⟩
def qQ(l:List gG):kD:=l.foldl jd kD.none
theorem Zy(l:List gG)(r:gG):qQ (l++[r])=jd (qQ l) r:=by
 unfold qQ;rw[yZ];rfl
structure wU(L:kD):Prop where
 has:∀x,x∈L.names↔(L.last x).isSome=true
 own:∀x r,L.last x=some r->r.name=x
 nd:L.names.Nodup
 le:L.names.length<=L.count
theorem wU.none:wU kD.none:=⟨fun _=>⟨fun h=>absurd h dH,fun h=>absurd h fu⟩,fun _ _ h=>absurd h.symm (RN _),DC,ai _⟩
theorem wU.note{L:kD}(h:wU L)(r:gG):wU (jd L r):=by
 by_cases hq:(L.last r.name).isSome=true
 ·have e:(jd L r).names=L.names:=aH hq;refine⟨fun x=>?_,fun x s hs=>?_,by rw[e];exact h.nd,by rw[e];exact Nat.le_succ_of_le h.le⟩
  ·rw[e];show _↔(if x=r.name then some r else L.last x).isSome=true
   by_cases hx:x=r.name
   ·rw[aH hx,hx];exact⟨fun _=>rfl,fun _=>(h.has _).2 hq⟩
   rw[aA hx];exact h.has x
  have hs':(if x=r.name then some r else L.last x)=some s:=hs
  by_cases hx:x=r.name
  ·rw[aH hx] at hs';rw[<-ax hs',hx]
  rw[aA hx] at hs';exact h.own x s hs'
 have e:(jd L r).names=L.names++[r.name]:=aA hq;refine⟨fun x=>?_,fun x s hs=>?_,?_,?_⟩
 ·rw[e,bQ,bD];show _↔(if x=r.name then some r else L.last x).isSome=true
  by_cases hx:x=r.name
  ·rw[aH hx];exact⟨fun _=>rfl,fun _=>aP hx⟩
  rw[aA hx];exact⟨fun g=>g.elim (fun g=>(h.has x).1 g) (fun g=>absurd g hx),fun g=>aK ((h.has x).2 g)⟩
 ·have hs':(if x=r.name then some r else L.last x)=some s:=hs
  by_cases hx:x=r.name
  ·rw[aH hx] at hs';rw[<-ax hs',hx]
  rw[aA hx] at hs';exact h.own x s hs'
 ·rw[e,nk];refine⟨h.nd,nC.2 ⟨dH,DC⟩,fun a ha b hb=>?_⟩;rw[bD.1 hb];intro g;rw[g] at ha;exact hq ((h.has _).1 ha)
 rw[e,aI];exact Nat.succ_le_succ h.le
theorem adX:∀l:List gG,wU (qQ l):=by
 intro l;unfold qQ
 have g:∀(l:List gG) (L:kD),wU L->wU (l.foldl jd L):=by
  intro l
  induction l with
  |nil=>exact fun _ h=>h
  |cons r l ih=>exact fun L h=>ih _ (h.note r)
 exact g l _ wU.none
theorem Az(l:List gG):(qQ l).count=l.length:=by
 have g:∀(l:List gG) (L:kD),(l.foldl jd L).count=L.count+l.length:=by
  intro l
  induction l with
  |nil=>exact fun _=>rfl
  |cons r l ih=>
   intro L;rw[jA,ih];show L.count+1+l.length=L.count+(l.length+1);omega
 have h:=g l kD.none;rw[show kD.none.count=0 from rfl,dh] at h;exact h
def kr(L:kD):List gG:=L.names.filterMap L.last
def yG(L:kD):Bool:=decide (2*L.names.length+8<L.count)
end Go.Proofs.YthhbpebihgjpjaaGreatDoor
