import Derived.Test.YthhbpebihgjpjaaGreatDoorZ08
import Derived.Test.YthhbpebihgjpjaaGreatDoorZ10
namespace Go.Proofs.YthhbpebihgjpjaaGreatDoor
set_option maxRecDepth 1000000
set_option maxHeartbeats 20000000
set_option linter.all false
structure gm where
 name:ah
 sig:ah
 sum:ah
def lV(r:gm):ah:=⟨#[UInt8.ofNat r.name.size]⟩++r.name++r.sig++r.sum
def lI(b:ah):ah:=wY (BM b).toNat
def zR(r:gm):ah:=⟨#[UInt8.ofNat (lV r).size]⟩++lV r++lI (lV r)
def fP:List gm->ah
 |[]=>⟨#[]⟩
 |r::l=>zR r++fP l
def lW(t:ah):Option (ah×ah):=
 if t.size=0 then none
 else if t.size<1+byteOf t 0+4 then none
 else if t.extract (1+byteOf t 0) (1+byteOf t 0+4)=lI (t.extract 1 (1+byteOf t 0)) then some (t.extract 1 (1+byteOf t 0),t.extract (1+byteOf t 0+4) t.size)
 else none
def pW(b:ah):Option gm:=
 if b.size<65 then none
 else if byteOf b 0≠b.size-65 then none
 else if eD (b.extract 1 (b.size-64))=true then some ⟨b.extract 1 (b.size-64),b.extract (b.size-64) (b.size-32),b.extract (b.size-32) b.size⟩
 else none
def oQ(t:ah):Option (gm×ah):=(lW t).bind fun x=>(pW x.1).map fun r=>(r,x.2)
def jm:ah:=⟨#[98,117,105,108,100,101,114,108,111,103,49,10]⟩
def mo:Nat->ah->List gm->List gm×Bool
 |0,t,l=>(l,t.size==0)
 |g+1,t,l=>if t.size=0 then (l,true) else match oQ t with
   |none=>(l,false)
   |some x=>mo g x.2 (l++[x.1])
def iq(t:ah):List gm×Bool:=
 if t.extract 0 12=jm then mo t.size (t.extract 12 t.size) [] else ([],false)
section
open Go.RowKit
def bE(r:gm):List Value:=.string r.name::(Lib.strCells r.sig++Lib.strCells r.sum)
structure lN(r:gm):Prop where
 name:r.name.size<=32
 sig:r.sig.size=32
 sum:r.sum.size=32
variable {j:Nat}{u:Value}
theorem UC{s:ah}(h:(Lib.strCells s)[j]?=some u):j<s.size:=by
 have:=(aJ.1 h).1
 rwa [Lib.strCells_length] at this
variable {r:gm}
theorem ad6(h:(Lib.strCells r.sig)[j]?=some u):(bE r)[1+j]?=some u:=by
 show((.string r.name:Value)::(Lib.strCells r.sig++Lib.strCells r.sum))[1+j]?=_;rw[Yy,iE,bQ (by rw[Lib.strCells_length];exact UC h)];exact h
theorem ad7(hr:lN r)(h:(Lib.strCells r.sum)[j]?=some u):(bE r)[33+j]?=some u:=by
 show((.string r.name:Value)::(Lib.strCells r.sig++Lib.strCells r.sum))[33+j]?=_;rw[show 33+j=32+j+1 by omega,iE,dh (by rw[Lib.strCells_length,hr.sig];omega),Lib.strCells_length,hr.sig,show 32+j-32=j by omega];exact h
theorem ByteArray.zh(s:ah):(⟨#[]⟩:ah)++s=s:=by
 apply ByteArray.ext
 simp
theorem aa4(r:gm)(hr:lN r)(w:aj):
  Calls Tryz.prog 249 #[.agg (bE r).toArray] w fun e w'=>e=.returned (.string (lV r))/\Below w.heap.size w w':=by
 have HR:=aP hr;have hn:=hr.name
 have n0:(r.name.size:Int)<=32:=by omega
 obtain⟨W1,hW1⟩:∃W1,W1=(w.alloc (.cells (bE r).toArray 372)).alloc (.cells #[.pointer none,.slice none 0 0] 379):=⟨_,rfl⟩
 have hrow:W1.heap[w.heap.size]?=some (.cells (bE r).toArray 372 (0,0)):=by
  rw[hW1,aZ _ _ _ (by simp)];exact aW _ _ _ rfl
 have HB1:Hid (dP W1 (w.heap.size+1) ⟨#[]⟩):=by
  have h:=uW (w.alloc (.cells (bE r).toArray 372));rw[<-hW1] at h;show dP W1 (w.heap.size+1) _
  simpa using h
 have tq:Hid (Below w.heap.size w W1):=by rw[hW1];exact((au _ _).alloc (ai _) _).alloc (by simp) _
 have HC:Hid (∀j u,(bE r)[j]?=some u->W1.cell? ⟨w.heap.size,j,none⟩=some u):=fun j u hu=>by rw[bZ hrow];simpa using hu
 have c0:W1.cell? ⟨w.heap.size,0,none⟩=some (.string r.name):=HC.out 0 _ rfl;clear hrow hr
 have c0a:((w.alloc (.cells (bE r).toArray 372)).alloc (.cells #[.pointer none,.slice none 0 0] 379)).cell? ⟨w.heap.size,0,none⟩=some (.string r.name):=by rw[<-hW1];exact c0
 generalize hRC:(bE r).toArray=RC at*;clear hRC
 go_enter Tryz.func249,Tryz.ntmps249
 go_wp2_with fail
 rw[<-hW1];clear hW1 c0a;refine(xA (w.heap.size+1) ⟨#[]⟩ (UInt8.ofNat r.name.size) _ ?_ W1 HB1.out (by show 0+1<=_;omega)).mono ?_
 ·simp;omega
 rintro e w2 ⟨rfl,hb2,hl2⟩;have HB2:=aP hb2
 have HC2:Hid (∀j u,(bE r)[j]?=some u->w2.cell? ⟨w.heap.size,j,none⟩=some u):=fun j u hu=>(hl2.cell (p:=⟨w.heap.size,j,none⟩) (iX _)).trans (HC.out j u hu)
 have HL2:Hid (Below w.heap.size w w2):=tq.out.trans (hl2.mono (fB _));have d0:w2.cell? ⟨w.heap.size,0,none⟩=some (.string r.name):=HC2.out 0 _ rfl;clear hb2 hl2 HB1 HC tq c0
 go_wp2_with fail
 refine(rG (w.heap.size+1) _ r.name w2 HB2.out (by simp[aH];show 0+1+_<=_;omega)).mono ?_;rintro e w3 ⟨rfl,hb3,hl3⟩;have HB3:=aP hb3
 have HC3:Hid (∀j u,(bE r)[j]?=some u->w3.cell? ⟨w.heap.size,j,none⟩=some u):=fun j u hu=>(hl3.cell (p:=⟨w.heap.size,j,none⟩) (iX _)).trans (HC2.out j u hu)
 have HL3:Hid (Below w.heap.size w w3):=HL2.out.trans (hl3.mono (fB _))
 have HZ3:Hid ((⟨#[]⟩++⟨#[UInt8.ofNat r.name.size]⟩++r.name:ah).size<=33):=by show _<=_;rw[aH,aH];show 0+1+_<=_;omega
 clear hb3 hl3 HB2 HC2 HL2 d0;generalize hT3:(⟨#[]⟩++⟨#[UInt8.ofNat r.name.size]⟩++r.name:ah)=T3 at*;have HT3:=aP hT3;clear hT3
 have HW4:Hid (Calls Tryz.prog 247 #[.pointer (some ⟨w.heap.size+1,0,none⟩),.slice (some ⟨w.heap.size,1,none⟩) 32 32] w3 fun e w'=>e=.returned (.tuple #[.int .i64 32,.nilIface])/\dP w' (w.heap.size+1) (T3++r.sig)/\Below (w.heap.size+1) w3 w'):=by
  have h:=JU (w.heap.size+1) T3 r.sig w.heap.size 1 32 w3 HB3.out (iX _) (by have:=HZ3.out;rw[HR.out.sig];omega) (fun j u hu=>HC3.out (1+j) u (ad6 hu));rw[HR.out.sig] at h;exact h
 go_wp2_with fail
 refine HW4.out.mono ?_;rintro e w4 ⟨rfl,hb4,hl4⟩;have xu:=aP hb4
 have HC4:Hid (∀j u,(bE r)[j]?=some u->w4.cell? ⟨w.heap.size,j,none⟩=some u):=fun j u hu=>(hl4.cell (p:=⟨w.heap.size,j,none⟩) (iX _)).trans (HC3.out j u hu)
 have HL4:Hid (Below w.heap.size w w4):=HL3.out.trans (hl4.mono (fB _));clear hb4 hl4 HB3 HC3 HL3 HW4
 have HW5:Hid (Calls Tryz.prog 247 #[.pointer (some ⟨w.heap.size+1,0,none⟩),.slice (some ⟨w.heap.size,33,none⟩) 32 32] w4 fun e w'=>e=.returned (.tuple #[.int .i64 32,.nilIface])/\dP w' (w.heap.size+1) (T3++r.sig++r.sum)/\Below (w.heap.size+1) w4 w'):=by
  have h:=JU (w.heap.size+1) (T3++r.sig) r.sum w.heap.size 33 32 w4 xu.out (iX _) (by have:=HZ3.out;rw[aH,HR.out.sig,HR.out.sum];omega) (fun j u hu=>HC4.out (33+j) u (ad7 HR.out hu));rw[HR.out.sum] at h;exact h
 go_wp2_with fail
 refine HW5.out.mono ?_;rintro e w5 ⟨rfl,hb5,hl5⟩;have HL5:Hid (Below w.heap.size w w5):=HL4.out.trans (hl5.mono (fB _));have CQ:Hid (Calls Tryz.prog 248 #[.pointer (some ⟨w.heap.size+1,0,none⟩)] w5 fun e w'=>e=.returned (.string (T3++r.sig++r.sum))/\dP w' (w.heap.size+1) (T3++r.sig++r.sum)/\Below (w.heap.size+1) w5 w'):=uV _ _ w5 hb5
 have HBS:Hid (lV r=T3++r.sig++r.sum):=by
  show _=_;rw[<-HT3.out];unfold lV;rw[ByteArray.zh]
 clear hb5 hl5 xu HC4 HL4 HW5;generalize T3++r.sig++r.sum=T5 at*
 go_wp2_with fail
 refine CQ.out.mono ?_;rintro e w6 ⟨rfl,_,hl6⟩;have HL6:Hid (Below w.heap.size w w6):=HL5.out.trans (hl6.mono (fB _));clear hl6 CQ
 go_wp2
 go_ret;exact⟨by rw[HBS.out];rfl,HL6.out⟩
def yH(row:List Value)(o n:Nat)(s:ah):List Value:=row.take o++(Lib.strCells s).take n++row.drop (o+n)
theorem UD(s:ah):s.data.toList.map (fun x=>Value.int .u8 (x.toNat:Int))=Lib.strCells s:=rfl
variable {P:Program}
theorem FC(w:aj)(dT sT ty elem:TypeId)(g o n cap:Nat)(s:ah)(t:TypeId)(row:List Value)
  (hu:P.underlying dT=some (.slice elem)) (hs:(P.info? elem).map (·.size)=some 1) (hg:w.heap[g]?=some (.cells row.toArray t (0,0))) (hn:n<=s.size) (ho:o+n<=row.length):
  (Builtin.copy_ #[dT,sT] ty #[.slice (some ⟨g,o,none⟩) n cap,.string s]).run P w=.ok (goInt n) (w.setRow g (yH row o n s).toArray):=by
 have hl:((Lib.strCells s).take n).length=n:=by rw[gV,Lib.strCells_length];omega
 have hst:=acK P g o t ((Lib.strCells s).take n) 0 row.toArray w hg (by rw[hl,bT];omega) (by
  intro v hv;obtain⟨x,_,rfl⟩:=fH.1 (Py hv)
  rfl)
 rw[hl] at hst
 cases hq:P.info? elem with
 |none=>simp[hq] at hs
 |some i=>
  simp[Builtin.copy_,mZ hu,Builtin.lenOf,Builtin.firstCells,sizeOf,typeInfo,hq]
  have e1:s.size.min n=n:=aaU hn;have e2:n.min s.size=n:=lG hn
  try rw[e1]
  try rw[e2]
  rw[UD,hst]
  simp[Result.andThen,yH]
variable {o:Oper}
theorem Jb{P:Program}{w:aj}{ops:Array Oper}{rest:List Oper}{a:Act}{Q:Exit->Act->aj->Prop}(hgd:o.guard=none)(d x:Operand)(dT sT:TypeId)
  (ho:o.op=.call {callee:=.builtin .copy,args:=#[d,x],argTypes:=#[dT,sT]}) (elem:TypeId) (hu:P.underlying dT=some (.slice elem)) (hsz:(P.info? elem).map (·.size)=some 1)
  (g off n cap:Nat) (s:ah) (hd:a.eval d=.slice (some ⟨g,off,none⟩) n cap) (hs:a.eval x=.string s)
  (t:TypeId) (row:List Value) (hg:w.heap[g]?=some (.cells row.toArray t (0,0))) (hn:n<=s.size) (hl:off+n<=row.length)
  (h:∀w',Hid (w'.heap[g]?=some (.cells (yH row off n s).toArray t (0,0)))->Hid (∀k,k≠g->w'.heap[k]?=w.heap[k]?)->Hid (∀B w0,Below B w0 w->B<=g->Below B w0 w')->wpList P ops Q rest (a.put o.dst (goInt n)) w'):wpList P ops Q (o::rest) a w:=by
 refine wpList_plain hgd fun K hK=>?_
 have hrun:=FC (P:=P) w dT sT o.type elem g off n cap s t row hu hsz hg hn hl;unfold Oper.wp
 simp[execOp,ho,resolve,invoke,builtin,hd,hs,hrun,Result.andThen]
 exact hK _ _ (h _ (setRow_heap w g _ _ t _ hg) (fun k hk=>setRow_other w g k _ hk) (fun B w0 hb hB=>below_setRow hb hB _))
theorem UY{P:Program}{w:aj}{a:Act}{K:Act->aj->Prop}{Q:Exit->Act->aj->Prop}(d x:Operand)(dT sT:TypeId)
  (ho:o.op=.call {callee:=.builtin .copy,args:=#[d,x],argTypes:=#[dT,sT]}) (elem:TypeId) (hu:P.underlying dT=some (.slice elem)) (hsz:(P.info? elem).map (·.size)=some 1)
  (g off n cap:Nat) (s:ah) (hd:a.eval d=.slice (some ⟨g,off,none⟩) n cap) (hs:a.eval x=.string s)
  (t:TypeId) (row:List Value) (hg:w.heap[g]?=some (.cells row.toArray t (0,0))) (hn:n<=s.size) (hl:off+n<=row.length)
  (h:∀w',Hid (w'.heap[g]?=some (.cells (yH row off n s).toArray t (0,0)))->Hid (∀k,k≠g->w'.heap[k]?=w.heap[k]?)->Hid (∀B w0,Below B w0 w->B<=g->Below B w0 w')->K (a.put o.dst (goInt n)) w'):o.wp P a w K Q:=by
 have hrun:=FC (P:=P) w dT sT o.type elem g off n cap s t row hu hsz hg hn hl;unfold Oper.wp
 simp[execOp,ho,resolve,invoke,builtin,hd,hs,hrun,Result.andThen]
 exact h _ (setRow_heap w g _ _ t _ hg) (fun k hk=>setRow_other w g k _ hk) (fun B w0 hb hB=>below_setRow hb hB _)
theorem abS(nm s:ah)(z:List Value):yH (.string nm::z) 1 32 s=.string nm::(Lib.strCells (s.extract 0 32)++z.drop 32):=by
 have e:(Lib.strCells s).take 32=Lib.strCells (s.extract 0 32):=by
  show(s.data.toList.map _).take 32=(s.extract 0 32).data.toList.map _;rw[<-List.map_take]
  congr 1
  simp[gq,Pk]
 unfold yH;rw[e];rfl
theorem abT(nm a s:ah)(z:List Value)(hz:z.length=32)(ha:a.size=32)(hs:s.size=32):yH (.string nm::(Lib.strCells a++z)) 33 32 s=bE ⟨nm,a,s⟩:=by
 have e:(Lib.strCells s).take 32=Lib.strCells s:=bF (by rw[Lib.strCells_length];omega);unfold yH bE;rw[e,List.take_succ_cons,show 33+32=64+1 from rfl,List.drop_succ_cons,List.take_left' (by rw[Lib.strCells_length,ha]),yV (by rw[aF,Lib.strCells_length,ha,hz];omega)]
 simp
def sw(w:aj)(v:Value)(l:List gm):Prop:=∃ao cap,v=.slice ao l.length cap/\l.length<=cap/\(l=[]\/∃g o,ao=some ⟨g,o,none⟩/\g<w.heap.size/\∀(k:Nat) r,l[k]?=some r->w.rangeAt g (o+k*65) (bE r))
variable {w:aj}{v:Value}
theorem sw.keep{w':aj}{l:List gm}(h:sw w v l)(hb:Below w.heap.size w w'):sw w' v l:=by
 obtain⟨ao,cap,rfl,hc,h|⟨g,o,rfl,hg,h⟩⟩:=h
 ·exact⟨ao,cap,rfl,hc,aG h⟩
 exact⟨_,cap,rfl,hc,aL ⟨g,o,rfl,ay hg hb.size,fun k r hr j u hu=>(hb.cell (p:=⟨g,o+k*65+j,none⟩) hg).trans (h k r hr j u hu)⟩⟩
theorem iO(h:lN r):(bE r).length=65:=by
 show(Lib.strCells r.sig++Lib.strCells r.sum).length+1=65;rw[aF,Lib.strCells_length,Lib.strCells_length,h.sig,h.sum]
theorem lK(r:gm):∀u∈bE r,u.oneCell'=true:=by
 intro u hu
 rcases aV.1 hu with rfl|hu
 ·rfl
 rcases bK.1 hu with hu|hu<;>(obtain⟨y,_,rfl⟩:=fH.1 hu;rfl)
theorem LA(r:gm):∀l:List gm,fP (l++[r])=fP l++zR r
 |[]=>by
  show zR r++⟨#[]⟩=⟨#[]⟩++zR r;rw[ByteArray.zh];apply ByteArray.ext
  simp
 |x::l=>by
  show zR x++fP (l++[r])=zR x++fP l++zR r;rw[LA r l,dH]
theorem Aj(h:lN r):(lV r).size=r.name.size+65:=by
 unfold lV;rw[aH,aH,aH,h.sig,h.sum];show 1+_+32+32=_;omega
theorem OP(h:lN r):(zR r).size=r.name.size+70:=by
 unfold zR;rw[aH,aH,Aj h];show 1+_+4=_;omega
theorem AL:∀l:List gm,(∀r∈l,lN r)->(fP l).size<=l.length*102
 |[],_=>ai _
 |r::l,h=>by
  show(zR r++fP l).size<=_;rw[aH,OP (h r (aM ..)),aS,Nat.succ_mul];have h1:=AL l (fun x hx=>h x (aU _ hx));have h2:=(h r (aM ..)).name;omega
theorem Bf(l:List gm)(v:Value)(w:aj)(h:sw w v l)(hok:∀r∈l,lN r)(hl:l.length<=1000000000000):
  Calls Tryz.prog 172 #[v] w fun e w'=>e=.returned (.string (fP l))/\Below w.heap.size w w':=by
 obtain⟨ao,cap,rfl,hc,hg⟩:=id h;have HR:=aP h;have HOK:=aP hok
 have aiU:(Tryz.prog.info? 372).map (·.size)=some 65:=by kernel_rfl
 have HI:=aP aiU;clear h hok hc hg aiU;generalize hL:l.length=L at*;have HL:=aP hL
 have l0:(L:Int)<=1000000000000:=by omega
 clear hL;have HB0:Hid (dP (w.alloc (.cells #[.pointer none,.slice none 0 0] 379)) w.heap.size ⟨#[]⟩/\Below w.heap.size w (w.alloc (.cells #[.pointer none,.slice none 0 0] 379))):=⟨uW w,(au _ _).alloc (ai _) _⟩
 go_enter Tryz.func172,Tryz.ntmps172
 go_wp2_with fail
 generalize w.alloc (.cells #[.pointer none,.slice none 0 0] 379)=w1 at*
 go_loopw [9] (fun i wr=>∃j:Nat,i=.int .i64 j/\j<=L/\dP wr w.heap.size (fP (l.take j))/\Below w.heap.size w wr) (fun i _=>L-(intOf i).toNat)
 case atStart=>exact⟨0,rfl,aN _,HB0.out⟩
 case round=>
  clear HB0;obtain⟨j,rfl,hj,hbt,hbl⟩:=hrel;have HBT:=aP hbt;have tq:=aP hbl;clear hbt hbl
  have j0:(0:Int)<=(j:Int):=by omega
  by_cases hlt:j<L
  ·have j1:(j:Int)<(L:Int):=by omega
   obtain⟨r,hr⟩:∃r,l[j]?=some r:=⟨l[j]'(by have:=HL.out;omega),by simp⟩;obtain⟨_,_,e5,_,h6⟩:=HR.out.keep tq.out;injection e5 with f1 f2 f3
   rcases h6 with h6|⟨g,o,h6,hgl,hrg⟩
   ·rw[h6] at hr;simp at hr
   rw[h6] at f1;subst f1;have HRG:=aP (hrg j r hr);have hro:=HOK.out r (aO hr);have CZ:=aP (aK hro hr)
   have HI2:Hid ((Tryz.prog.info? 372).map (·.size)=some (bE r).length):=by rw[iO hro];exact HI.out
   clear hrg hr hro f2 f3 h6
   go_wp2_with (first
    | (refine nX rfl 372 (.tmp 11) rfl g (o+j*65) rfl (bE r) _ HRG.out Tryz.underlying372 rfl HI2.out ?_;refine dI ?_)
    |fail)
   have wU:Hid ((bE r).toArray.size=65/\(bE r).toArray.all (·.oneCell')=true):=⟨by rw[bT];exact iO CZ.out.1,dY (lK r)⟩;have Nz:Hid ((bE r).toArray.toList=bE r):=rfl
   have HBY:Hid (∀wx,Calls Tryz.prog 249 #[.agg (bE r).toArray] wx fun e w'=>e=.returned (.string (lV r))/\Below wx.heap.size wx w'):=fun wx=>aa4 r CZ.out.1 wx
   clear HRG;generalize hRC:(bE r).toArray=RC at*;clear hRC;unfold Hid
   go_wp2_with (first
    | (refine bU rfl 372 (.tmp 5) (.tmp 12) rfl wr.heap.size 0 RC rfl rfl (bM (aW _ _ _ rfl) 0 _ (by rw[wU.out.1];decide)) (by rw[wU.out.1];exact HI.out) wU.out.2 ?_;refine dI ?_)
    |fail)
   have HW2:Hid (Below wr.heap.size wr ((wr.alloc (.cells Tryz.zeroCells372 372)).setCells wr.heap.size 0 RC.toList)/\((wr.alloc (.cells Tryz.zeroCells372 372)).setCells wr.heap.size 0 RC.toList).rangeAt wr.heap.size 0 RC.toList):=by
    refine⟨ji _ _ ((au _ _).alloc (ai _) _) (ai _),dW _ _ _ _ (bM (aW _ _ _ rfl) 0 _ (by rw[aR,wU.out.1];decide))⟩
   generalize (wr.alloc (.cells Tryz.zeroCells372 372)).setCells wr.heap.size 0 RC.toList=w2 at*
   have HI3:Hid ((Tryz.prog.info? 372).map (·.size)=some RC.toList.length):=by rw[aR,wU.out.1];exact HI.out
   have ag8:=aP (HBT.out.below HW2.out.1);have ae4:=aP (tq.out.trans (HW2.out.1.mono tq.out.size));unfold Hid
   go_wp2_with (first
    | (refine nX rfl 372 (.tmp 5) rfl wr.heap.size 0 rfl RC.toList _ HW2.out.2 Tryz.underlying372 rfl HI3.out ?_;refine dI ?_)
    |fail)
   clear HI3 HW2 HBT tq HI2 Nz;unfold Hid
   go_wp2_with fail
   refine(HBY.out w2).mono ?_;rintro e w3 ⟨rfl,hb3⟩;have aaF:=aP (ag8.out.below hb3);have Vl:=aP (ae4.out.trans (hb3.mono ae4.out.size))
   have HSZ:Hid ((fP (l.take j)).size<=102000000000000):=by
    have h1:=AL (l.take j) (fun x hx=>HOK.out x (Py hx))
    have h2:(l.take j).length<=1000000000000:=by rw[gV];omega
    show _<=_;omega
   have HBZ:Hid ((lV r).size<=97):=by have h1:=Aj CZ.out.1;have h2:=CZ.out.1.name;show _<=_;omega
   have Ev:Hid (fP (l.take (j+1))=fP (l.take j)++⟨#[UInt8.ofNat (lV r).size]⟩++lV r++lI (lV r)):=by
    show _=_;rw[dN,CZ.out.2];show fP (l.take j++[r])=_;rw[LA];unfold zR;rw[dH,dH,dH]
   clear hb3 ag8 ae4 HBY wU;generalize fP (l.take j)=T at*;generalize lV r=BB at*
   have bz:(BB.size:Int)<=97:=by have:=HBZ.out;omega
   go_wp2_with fail
   refine(xA w.heap.size T (UInt8.ofNat BB.size) _ ?_ w3 aaF.out (by have:=HSZ.out;omega)).mono ?_
   ·have:=HBZ.out
    simp;omega
   rintro e w4 ⟨rfl,hb4,hl4⟩;have ag9:=aP hb4;have Yn:=aP (Vl.out.trans hl4);clear hb4 hl4 aaF Vl
   go_wp2_with fail
   refine(rG w.heap.size _ BB w4 ag9.out (by have:=HSZ.out;have:=HBZ.out;rw[aH];show _+1+_<=_;omega)).mono ?_;rintro e w5 ⟨rfl,hb5,hl5⟩;have aha:=aP hb5;have ae5:=aP (Yn.out.trans hl5)
   have HCR:Hid (∀wx,Calls Tryz.prog 251 #[.string BB] wx fun e w'=>e=.returned (.int .u32 (BM BB))/\w'=wx):=fun wx=>XP BB (by have:=HBZ.out;omega) wx
   have HFB:Hid (∀wx,Calls Tryz.prog 250 #[.int .u32 (BM BB)] wx fun e w'=>e=.returned (.string (lI BB))/\Below wx.heap.size wx w'):=fun wx=>by
    have hcr:=XO BB;have h:=zm (BM BB).toNat (by omega) wx;rw[show(((BM BB).toNat:Nat):Int)=BM BB by omega] at h;exact h
   have HCZ:Hid ((lI BB).size=4):=rfl;clear hb5 hl5 ag9 Yn;generalize lI BB=C2 at*;generalize BM BB=z at*
   go_wp2_with fail
   refine(HCR.out w5).mono ?_;rintro e y ⟨rfl,hy⟩;rw[hy];clear hy
   go_wp2_with fail
   refine(HFB.out w5).mono ?_;rintro e w6 ⟨rfl,hb6⟩;have ahb:=aP (aha.out.below hb6);have ag6:=aP (ae5.out.trans (hb6.mono ae5.out.size));clear hb6 aha ae5 HCR HFB
   go_wp2_with fail
   refine(rG w.heap.size _ C2 w6 ahb.out (by have:=HSZ.out;have:=HBZ.out;have:=HCZ.out;rw[aH,aH];show _+1+_+_<=_;omega)).mono ?_;rintro e w7 ⟨rfl,Jk,hl7⟩
   have aj9:Hid (dP w7 w.heap.size (fP (l.take (j+1)))):=by rw[Ev.out];exact Jk
   have ae6:=aP (ag6.out.trans hl7);clear Jk hl7 ahb ag6 Ev
   go_wp2_with fail
   exact⟨⟨j+1,by go_num,by omega,aj9.out,ae6.out⟩,by simp[intOf];omega⟩
  obtain rfl:j=L:=by omega
  have CQ:Hid (Calls Tryz.prog 248 #[.pointer (some ⟨w.heap.size,0,none⟩)] wr fun e w'=>e=.returned (.string (fP l))/\Below w.heap.size wr w'):=by
   have h:=uV _ _ wr HBT.out;rw[bF (dx HL.out)] at h
   exact h.mono fun e w' ⟨h1,_,h3⟩=>⟨h1,h3⟩
  go_wp2_with fail
  refine CQ.out.mono ?_;rintro e w7 ⟨rfl,hl7⟩;have ae6:=aP (tq.out.trans hl7);clear hl7 CQ
  go_wp2
  go_ret;exact⟨rfl,ae6.out⟩
variable {fn:Func}{c:Tmp}{ty:TypeId}
theorem pU{u:Tmp}(h:fn.results=#[.cell c ty,.tmp u])(tmps:Array Value)(P:Program)(w:aj)(b o:Nat)(cs:List Value)(d:TypeDesc)(hp:tmps.getD c undef=.pointer (some ⟨b,o,none⟩))(hc:w.rangeAt b o cs)
  (hu:P.underlying ty=some d) (hd:d.isRow=true) (hi:(P.info? ty).map (·.size)=some cs.length):
  (results fn tmps).run P w=.ok (.tuple #[.agg cs.toArray,tmps.getD u undef]) w:=by
 have hl:=run_loadVar_mid (P:=P) w b o ty cs d hc hu hd hi
 have hp':tmps[c]?.getD undef=.pointer (some ⟨b,o,none⟩):=by simpa using hp
 simp only[results,h]
 simp[hp',asAddr,hl]
theorem zw{u v:Tmp}(h:fn.results=#[.cell c ty,.tmp u,.tmp v])(tmps:Array Value)(P:Program)(w:aj)(b o:Nat)(cs:List Value)(d:TypeDesc)(hp:tmps.getD c undef=.pointer (some ⟨b,o,none⟩))(hc:w.rangeAt b o cs)
  (hu:P.underlying ty=some d) (hd:d.isRow=true) (hi:(P.info? ty).map (·.size)=some cs.length):
  (results fn tmps).run P w=.ok (.tuple #[.agg cs.toArray,tmps.getD u undef,tmps.getD v undef]) w:=by
 have hl:=run_loadVar_mid (P:=P) w b o ty cs d hc hu hd hi
 have hp':tmps[c]?.getD undef=.pointer (some ⟨b,o,none⟩):=by simpa using hp
 simp only[results,h]
 simp[hp',asAddr,hl]
theorem uI(P:Program)(w:aj)(g:Nat)(t:TypeId)(row:Array Value)(vs:List Value)(hg:w.heap[g]?=some (.cells row t (0,0)))(hl:vs.length=row.size)(h1:∀v∈vs,v.oneCell'=true):
  (w.setCells g 0 vs).heap[g]?=some (.cells vs.toArray t (0,0)):=by
 have e1:=acK P g 0 t vs 0 row w hg (by omega) h1;have ht:=bM hg 0 vs.length (by omega);have e2:=run_storeCells_cells (P:=P) g 0 vs 0 w (fun j hj=>(ht j hj).1) (fun j hj=>(ht j hj).2) h1;rw[e1] at e2;injection e2 with _ e3;rw[<-e3]
 have e4:(row.toList.take (0+0)++vs++row.toList.drop (0+0+vs.length))=vs:=by
  rw[yV (by rw[aR];omega)]
  simp
 rw[e4];exact setRow_heap w g _ _ t _ hg
theorem Qh(t:ah)(h:65<=t.size):(t.extract (t.size-64) t.size).extract 32 (t.extract (t.size-64) t.size).size=t.extract (t.size-32) t.size:=by
 rw[aI];apply ByteArray.ext;rw[gq,gq,gq,Array.extract_extract];rw[show t.size-64+32=t.size-32 by omega,show min (t.size-64+(min t.size t.size-(t.size-64))) t.size=t.size by omega]
theorem Sw(t:ah)(h:65<=t.size):(t.extract (t.size-64) t.size).extract 0 32=t.extract (t.size-64) (t.size-32):=by
 apply ByteArray.ext;rw[gq,gq,gq,Array.extract_extract];rw[show t.size-64+0=t.size-64 by omega,show min (t.size-64+32) t.size=t.size-32 by omega]
def QW(o:Option gm)(e:Ending):Prop:=match o with
 |some r=>e=.returned (.tuple #[.agg (bE r).toArray,.bool true])
 |none=>∃c:Array Value,c.size=65/\c.all (·.oneCell')=true/\e=.returned (.tuple #[.agg c,.bool false])
theorem QY(t:ah)(ht:t.size<=1099511627776)(w:aj):
  Calls Tryz.prog 308 #[.string t] w fun e w'=>QW (pW t) e/\Below w.heap.size w w':=by
 have n0:(t.size:Int)<=1099511627776:=by omega
 have HI:Hid ((Tryz.prog.info? 372).map (·.size)=some 65):=by show _=_;kernel_rfl
 have HZ:Hid (Tryz.zeroCells372.size=65/\Tryz.zeroCells372.all (·.oneCell')=true):=⟨by kernel_rfl,by kernel_rfl⟩
 by_cases h0:t.size<65
 ·have HN:Hid (pW t=none):=aD h0
  have g0:(t.size:Int)<65:=by omega
  have g1:(t.size:Int)-1-64<0:=by omega
  go_enter Tryz.func308,Tryz.ntmps308
  go_wp2_with (first
   | (generalize Tryz.zeroCells372=Z at*;refine bU rfl 372 (.tmp 2) (.tmp 21) rfl w.heap.size 0 Z rfl rfl (bM (aW _ _ _ rfl) 0 _ (by rw[HZ.out.1];decide)) (by rw[HZ.out.1];exact HI.out) HZ.out.2 ?_;refine dI ?_)
   |fail)
  have HW2:Hid (Below w.heap.size w ((w.alloc (.cells Z 372)).setCells w.heap.size 0 Z.toList)/\((w.alloc (.cells Z 372)).setCells w.heap.size 0 Z.toList).rangeAt w.heap.size 0 Z.toList):=by
   refine⟨ji _ _ ((au _ _).alloc (ai _) _) (ai _),dW _ _ _ _ (bM (aW _ _ _ rfl) 0 _ (by rw[aR,HZ.out.1];decide))⟩
  generalize (w.alloc (.cells Z 372)).setCells w.heap.size 0 Z.toList=w2 at*;unfold Hid
  go_wp2_with fail
  refine bP (pU rfl _ _ _ w.heap.size 0 Z.toList _ rfl HW2.out.2 Tryz.underlying372 rfl (by rw[aR,HZ.out.1];exact HI.out)) rfl ?_;rw[HN.out];exact⟨⟨_,by rw[cK];exact HZ.out.1,by rw[cK];exact HZ.out.2,rfl⟩,HW2.out.1⟩
 have hidx:∀wx,(Instr.index 9 (.string t) (.int .i64 0)).run Tryz.prog wx=.ok (.int .u8 (byteOf t 0)) wx:=fun wx=>kF t 0 (by omega) wx
 have hbl:=xB t 0;have HS:Hid (pW t=if byteOf t 0≠t.size-65 then none else if eD (t.extract 1 (t.size-64))=true then some ⟨t.extract 1 (t.size-64),t.extract (t.size-64) (t.size-32),t.extract (t.size-32) t.size⟩ else none):=ax h0
 have g0:¬(t.size:Int)-1-64<0:=by omega
 generalize byteOf t 0=b at*
 by_cases h1:b≠t.size-65
 ·have HN:=aP (HS.out.trans (aD h1))
  have g1:((b:Int)==(t.size:Int)-1-64)=false:=by rw[lg];omega
  clear HS
  go_enter Tryz.func308,Tryz.ntmps308
  go_wp2_with (first
   | (generalize Tryz.zeroCells372=Z at*;refine bU rfl 372 (.tmp 2) (.tmp 21) rfl w.heap.size 0 Z rfl rfl (bM (aW _ _ _ rfl) 0 _ (by rw[HZ.out.1];decide)) (by rw[HZ.out.1];exact HI.out) HZ.out.2 ?_;refine dI ?_)
   |fail)
  have HW2:Hid (Below w.heap.size w ((w.alloc (.cells Z 372)).setCells w.heap.size 0 Z.toList)/\((w.alloc (.cells Z 372)).setCells w.heap.size 0 Z.toList).rangeAt w.heap.size 0 Z.toList):=by
   refine⟨ji _ _ ((au _ _).alloc (ai _) _) (ai _),dW _ _ _ _ (bM (aW _ _ _ rfl) 0 _ (by rw[aR,HZ.out.1];decide))⟩
  generalize (w.alloc (.cells Z 372)).setCells w.heap.size 0 Z.toList=w2 at*;unfold Hid
  go_wp2_with fail
  refine bP (pU rfl _ _ _ w.heap.size 0 Z.toList _ rfl HW2.out.2 Tryz.underlying372 rfl (by rw[aR,HZ.out.1];exact HI.out)) rfl ?_;rw[HN.out];exact⟨⟨_,by rw[cK];exact HZ.out.1,by rw[cK];exact HZ.out.2,rfl⟩,HW2.out.1⟩
 have HS2:=aP (HS.out.trans (ax h1))
 have g1:((b:Int)==(t.size:Int)-1-64)=true:=by rw[beq_iff_eq];omega
 clear HS;have HZR:Hid (∃Y:List Value,Tryz.zeroCells372.toList=.string ⟨#[]⟩::Y/\Y.length=64):=⟨Tryz.zeroCells372.toList.tail,by kernel_rfl,by kernel_rfl⟩
 have s1:∀wx,(Instr.slice 9 (.string t) (some (.int .i64 1)) (some (.int .i64 (1+((t.size:Int)-1-64)))) none).run Tryz.prog wx=.ok (.string (t.extract 1 (t.size-64))) wx:=fun wx=>GN t 1 (t.size-64) _ _ rfl (by omega) (by omega) (by omega) wx
 have s2:∀wx,(Instr.slice 9 (.string t) (some (.int .i64 (1+((t.size:Int)-1-64)))) none none).run Tryz.prog wx=.ok (.string (t.extract (t.size-64) t.size)) wx:=fun wx=>Ei t (t.size-64) _ (by omega) (by omega) wx
 have s3:∀wx,(Instr.slice 9 (.string (t.extract (t.size-64) t.size)) (some (.int .i64 32)) none none).run Tryz.prog wx=.ok (.string (t.extract (t.size-32) t.size)) wx:=fun wx=>by
  rw[Ei (t.extract (t.size-64) t.size) 32 32 rfl (by rw[aI];omega) wx,Qh t (by omega)]
 generalize hN:t.extract 1 (t.size-64)=N at*;generalize hR:t.extract (t.size-64) t.size=R at*;generalize hM:t.extract (t.size-32) t.size=M at*
 go_enter Tryz.func308,Tryz.ntmps308
 go_wp2_with fail
 have HA:Hid (Below w.heap.size w (w.alloc (.cells Tryz.zeroCells372 372))/\(w.alloc (.cells Tryz.zeroCells372 372)).heap[w.heap.size]?=some (.cells Tryz.zeroCells372 372 (0,0))):=⟨(au _ _).alloc (ai _) _,aW _ _ _ rfl⟩;generalize w.alloc (.cells Tryz.zeroCells372 372)=w1 at*
 go_quiet (fail)
 have HQ:Hid (Below w1.heap.size w1 (w1.drewN nq)):=below_drewN (au _ _) nq;generalize w1.drewN nq=w2 at*;have HA2:Hid (Below w.heap.size w w2/\w2.heap[w.heap.size]?=some (.cells Tryz.zeroCells372 372 (0,0))):=⟨HA.out.1.trans (HQ.out.mono HA.out.1.size),(HQ.out.block _ (gI.1 HA.out.2).1).trans HA.out.2⟩;clear HA HQ s1 s2 hidx g1 g0;obtain⟨Y,hY,hYl⟩:=HZR.out
 have HY:Hid (Y.length=64/\∀v∈Y,v.oneCell'=true):=⟨hYl,fun v hv=>by
  have h:=kQ.1 HZ.out.2 v (by rw[<-uP,hY];exact aU _ hv)
  exact h⟩
 have hZY:∀x:Value,Tryz.zeroCells372.setIfInBounds 0 x=(x::Y).toArray:=fun x=>by
  apply fD.1;rw[Dw,hY];rfl
 have HY1:Hid (∀v∈Value.string N::Y,v.oneCell'=true):=fun v hv=>by
  rcases aV.1 hv with rfl|hv
  ·rfl
  exact HY.out.2 v hv
 clear hY hYl HZR
 go_wp2_with (first
  | (generalize Tryz.zeroCells372=Z at*;refine bU rfl 372 (.tmp 7) (.tmp 31) rfl w2.heap.size 0 (.string N::Y).toArray rfl rfl (bM (aW _ _ _ rfl) 0 _ (by rw[HZ.out.1,bT,aS,HY.out.1];decide)) (by rw[bT,aS,HY.out.1];exact HI.out) (dY HY1.out) ?_;refine dI ?_)
  |fail)
 have HW3:Hid (Below w2.heap.size w2 ((w2.alloc (.cells Z 372)).setCells w2.heap.size 0 (Value.string N::Y))/\((w2.alloc (.cells Z 372)).setCells w2.heap.size 0 (Value.string N::Y)).heap[w2.heap.size]?=some (.cells (Value.string N::Y).toArray 372 (0,0))):=by
  refine⟨ji _ _ ((au _ _).alloc (ai _) _) (ai _),uI Tryz.prog _ _ _ Z _ (aW _ _ _ rfl) (by rw[aS,HY.out.1,HZ.out.1]) HY1.out⟩
 generalize (w2.alloc (.cells Z 372)).setCells w2.heap.size 0 (Value.string N::Y)=w3 at*;have Nw:Hid (Below w.heap.size w w3/\w3.heap[w.heap.size]?=some (.cells Z 372 (0,0))/\w.heap.size<w2.heap.size):=⟨HA2.out.1.trans (HW3.out.1.mono HA2.out.1.size),(HW3.out.1.block _ (gI.1 HA2.out.2).1).trans HA2.out.2,(gI.1 HA2.out.2).1⟩;have Ms:Hid (R.size=64/\M.size=32):=⟨by rw[<-hR,aI];omega,by rw[<-hM,aI];omega⟩;generalize w2.heap.size=g at*;clear HA2 hZY;unfold Hid
 go_wp2_with (first
  | (refine Jb rfl (.tmp 33) (.tmp 34) 219 9 rfl 5 (by kernel_rfl) (by kernel_rfl) g 1 32 32 R rfl rfl 372 _ HW3.out.2 (by rw[Ms.out.1];decide) (by rw[aS,HY.out.1];decide) (fun w4 hc hk hbl=>?_);refine dI ?_)
  |fail)
 have HC4:Hid (w4.heap[g]?=some (.cells (Value.string N::(Lib.strCells (R.extract 0 32)++Y.drop 32)).toArray 372 (0,0))):=by rw[<-abS];exact hc
 have HA4:Hid (Below w.heap.size w w4/\w4.heap[w.heap.size]?=some (.cells Z 372 (0,0))):=⟨hbl.out _ _ Nw.out.1 (iM Nw.out.2.2),(hk.out _ (Nat.ne_of_lt Nw.out.2.2)).trans Nw.out.2.1⟩;clear hc hk hbl HW3;unfold Hid
 go_wp2_with fail
 refine dB (S:=fun w'=>Below w.heap.size w w') (by kernel_rfl) ?_;change wpAnyH _ _ _ _ _ _ _ _ (World.drew _);obtain⟨wd,hwd⟩:∃wd,wd=w4.drew:=⟨_,rfl⟩;rw[<-hwd]
 have gP:Hid (Below w.heap.size w wd):=by rw[hwd];exact HA4.out.1.drew
 have HCd:Hid (wd.heap[g]?=some (.cells (Value.string N::(Lib.strCells (R.extract 0 32)++Y.drop 32)).toArray 372 (0,0))/\wd.heap[w.heap.size]?=some (.cells Z 372 (0,0))):=by rw[hwd];exact⟨HC4.out,HA4.out.2⟩
 clear hwd HC4 HA4;refine u3 0 (.pointer (some ⟨g,33,none⟩)) rfl gP.out ?_<|u3 1 (.slice (some ⟨g,33,none⟩) 32 32) rfl gP.out ?_<|u3 2 (.string R) rfl gP.out ?_<|u3 3 (.string M) rfl gP.out ?_ ?_;(iterate 4 ·exact⟨by kernel_rfl,kI,by intro w _;go_simp⟩)
 refine rH 4 rfl (by kernel_rfl) fun K hK=>?_
 rw[aD (by kernel_rfl)];refine UY (.tmp 37) (.tmp 39) 219 9 rfl 5 (by kernel_rfl) (by kernel_rfl) g 33 32 32 M rfl rfl 372 _ HCd.out.1 (by rw[Ms.out.2];decide) (by rw[aS,aF,vM,HY.out.1,Lib.strCells_length,aI,Ms.out.1];decide) (fun w5 hc hk hbl=>?_);have Bo:Hid (Below w.heap.size w w5):=hbl.out _ _ gP.out (iM Nw.out.2.2);refine hK.out _ _ Bo.out (fun _=>?_);clear hK K;have HC5:Hid (w5.heap[g]?=some (.cells (bE ⟨N,R.extract 0 32,M⟩).toArray 372 (0,0))/\w5.heap[w.heap.size]?=some (.cells Z 372 (0,0))):=⟨by rw[<-abT N (R.extract 0 32) M (Y.drop 32) (by rw[vM,HY.out.1]) (by rw[aI,Ms.out.1];decide) Ms.out.2];exact hc.out,(hk.out _ (Nat.ne_of_lt Nw.out.2.2)).trans HCd.out.2⟩
 have Bq:Hid ((bE ⟨N,R.extract 0 32,M⟩).length=65/\∀u∈bE ⟨N,R.extract 0 32,M⟩,u.oneCell'=true):=⟨by
  show(Lib.strCells (R.extract 0 32)++Lib.strCells M).length+1=65
  rw[aF,Lib.strCells_length,Lib.strCells_length,aI,Ms.out.1,Ms.out.2];decide,lK _⟩
 have Ba:Hid (QW (pW t) (.returned (.tuple #[.agg (bE ⟨N,R.extract 0 32,M⟩).toArray,.bool (eD N)]))):=by
  show QW _ _;rw[HS2.out,<-Sw t (by omega),hR]
  cases hq:eD N with
  |true=>exact rfl
  |false=>exact⟨_,by rw[bT];exact Bq.out.1,dY Bq.out.2,rfl⟩
 clear hc hk hbl HCd gP HY HY1 HS2 hN hR hM s3;generalize bE ⟨N,R.extract 0 32,M⟩=RC at*;refine eF (by kernel_rfl) ?_ _
 go_wp2_with fail
 refine dB (S:=fun w'=>Below w.heap.size w w'/\w'.rangeAt g 0 RC) (by kernel_rfl) ?_;change wpAnyH _ _ _ _ _ _ _ _ (World.drew _);obtain⟨wd,hwd⟩:∃wd,wd=w5.drew:=⟨_,rfl⟩;rw[<-hwd]
 have HCd:Hid (wd.heap[w.heap.size]?=some (.cells Z 372 (0,0))):=by rw[hwd];exact HC5.out.2
 have gP:Hid (Below w.heap.size w wd/\wd.rangeAt g 0 RC):=by
  rw[hwd];refine⟨Bo.out.drew,fun j u hu=>?_⟩;have h5:w5.drew.heap[g]?=some (.cells RC.toArray 372 (0,0)):=HC5.out.1;rw[bZ h5]
  simpa using hu
 clear hwd Bo HC5;refine ng (i:=0) rfl (by kernel_rfl) (by kernel_rfl) (by kernel_rfl) (fun _ _ _ h=>h) (acL (by kernel_rfl) 372 (.tmp 7) rfl g 0 rfl RC _ (fun w' h=>h.2) Tryz.underlying372 rfl (by rw[Bq.out.1];exact HI.out)) gP.out ?_;refine u3 1 (.string N) rfl gP.out ⟨by kernel_rfl,kI,by intro w _;go_simp⟩ ?_
 refine rH 2 rfl (by kernel_rfl) fun K hK=>?_
 go_simp;refine(sG N _).mono ?_;rintro e y ⟨rfl,hy⟩;rw[hy];clear hy;refine hK.out _ _ gP.out (fun _=>?_);clear hK K
 refine rH 3 rfl (by kernel_rfl) fun K hK=>?_
 rw[aD (by kernel_rfl)];refine wp_store_mid 372 (.tmp 2) (.tmp 41) rfl w.heap.size 0 RC.toArray rfl rfl (bM HCd.out 0 _ (by rw[bT,Bq.out.1,HZ.out.1];decide)) (by rw[bT,Bq.out.1];exact HI.out) (dY Bq.out.2) ?_
 have FN:Hid ((Below w.heap.size w (wd.setCells w.heap.size 0 RC)/\(wd.setCells w.heap.size 0 RC).rangeAt g 0 RC)/\(wd.setCells w.heap.size 0 RC).rangeAt w.heap.size 0 RC):=by
  refine⟨⟨ji _ _ gP.out.1 (ai _),World.rangeAt_setCells_apart gP.out.2 _ _ _ (aG (Nat.ne_of_gt Nw.out.2.2))⟩,dW _ _ _ _ (bM HCd.out 0 _ (by rw[Bq.out.1,HZ.out.1];decide))⟩
 change K _ (wd.setCells w.heap.size 0 RC);generalize wd.setCells w.heap.size 0 RC=w6 at*;refine hK.out _ _ FN.out.1 (fun _=>?_);clear hK K gP HCd;have gP:=aP FN.out.1;refine u3 4 (.bool (eD N)) rfl gP.out ⟨by kernel_rfl,kI,by intro w _;go_simp⟩ ?_;refine eF (by kernel_rfl) ?_ _;generalize eD N=q at*
 go_wp2_with fail
 refine bP (pU rfl _ _ _ w.heap.size 0 RC _ rfl FN.out.2 Tryz.underlying372 rfl (by rw[Bq.out.1];exact HI.out)) rfl ?_;exact⟨Ba.out,FN.out.1.1⟩
def VI(o:Option (ah×ah))(e:Ending):Prop:=match o with
 |some x=>e=.returned (.tuple #[.string x.1,.string x.2,.bool true])
 |none=>∃a b,e=.returned (.tuple #[.string a,.string b,.bool false])
theorem RY(t:ah)(ht:t.size<=1099511627776)(w:aj):
  Calls Tryz.prog 307 #[.string t] w fun e w'=>VI (lW t) e/\Below w.heap.size w w':=by
 have HB0:Hid (Below w.heap.size w w):=au _ _
 have n0:(t.size:Int)<=1099511627776:=by omega
 by_cases h0:t.size=0
 ·have HN:Hid (lW t=none):=aD h0
  have he:t.toList.isEmpty=true:=by rw[qN];exact bN h0
  go_enter Tryz.func307,Tryz.ntmps307
  go_wp2
  go_ret3;rw[HN.out];exact⟨⟨_,_,rfl⟩,HB0.out⟩
 have he:t.toList.isEmpty=false:=by rw[qN];exact bH h0
 have hidx:∀wx,(Instr.index 9 (.string t) (.int .i64 0)).run Tryz.prog wx=.ok (.int .u8 (byteOf t 0)) wx:=fun wx=>kF t 0 (by omega) wx
 have hb:=xB t 0;have HS:Hid (lW t=if t.size<1+byteOf t 0+4 then none else if t.extract (1+byteOf t 0) (1+byteOf t 0+4)=lI (t.extract 1 (1+byteOf t 0)) then some (t.extract 1 (1+byteOf t 0),t.extract (1+byteOf t 0+4) t.size) else none):=ax h0;generalize byteOf t 0=b at*
 by_cases h1:t.size<1+b+4
 ·have HN:=aP (HS.out.trans (aD h1))
  have g1:(t.size:Int)<1+(b:Int)+4:=by omega
  clear HS
  go_enter Tryz.func307,Tryz.ntmps307
  go_wp2
  go_ret3;rw[HN.out];exact⟨⟨_,_,rfl⟩,HB0.out⟩
 have HS2:=aP (HS.out.trans (ax h1))
 have g1:¬(t.size:Int)<1+(b:Int)+4:=by omega
 have s1:∀wx,(Instr.slice 9 (.string t) (some (.int .i64 1)) (some (.int .i64 (1+(b:Int)))) none).run Tryz.prog wx=.ok (.string (t.extract 1 (1+b))) wx:=fun wx=>GN t 1 (1+b) _ _ rfl (by omega) (by omega) (by omega) wx
 have s2:∀wx,(Instr.slice 9 (.string t) (some (.int .i64 (1+(b:Int)+4))) none none).run Tryz.prog wx=.ok (.string (t.extract (1+b+4) t.size)) wx:=fun wx=>Ei t (1+b+4) _ (by omega) (by omega) wx
 have s3:∀wx,(Instr.slice 9 (.string t) (some (.int .i64 (1+(b:Int)))) (some (.int .i64 (1+(b:Int)+4))) none).run Tryz.prog wx=.ok (.string (t.extract (1+b) (1+b+4))) wx:=fun wx=>GN t (1+b) (1+b+4) _ _ (by omega) (by omega) (by omega) (by omega) wx
 have HB:Hid ((t.extract 1 (1+b)).size<=1099511627776):=by show _<=_;rw[aI];omega
 clear HS;generalize t.extract 1 (1+b)=B1 at*;generalize t.extract (1+b+4) t.size=R1 at*;generalize t.extract (1+b) (1+b+4)=C1 at*
 go_enter Tryz.func307,Tryz.ntmps307
 go_wp2_with fail
 go_quiet (fail)
 have HBq:Hid (Below w.heap.size w (w.drewN nq)):=below_drewN (au _ _) nq;generalize w.drewN nq=w1 at*
 go_wp2_with fail
 refine dB (S:=fun w'=>Below w.heap.size w w') (by kernel_rfl) ?_;change wpAnyH _ _ _ _ _ _ _ _ (World.drew _);obtain⟨wd,hwd⟩:∃wd,wd=w1.drew:=⟨_,rfl⟩;rw[<-hwd]
 have gP:Hid (Below w.heap.size w wd):=by rw[hwd];exact HBq.out.drew
 clear hwd
 have hwr:IntKind.i64.wrap (1+(b:Int)+4)=1+(b:Int)+4:=by rw[gH];omega
 refine u3 0 (.string B1) rfl gP.out ?_<|u3 1 (.string R1) rfl gP.out ?_<|u3 2 (.string t) rfl gP.out ?_<|u3 3 (.int .i64 (1+(b:Int))) rfl gP.out ?_<|u3 4 (.int .i64 (1+(b:Int))) rfl gP.out ?_<|u3 5 (.int .i64 (1+(b:Int)+4)) rfl gP.out ?_<|u3 6 (.string C1) rfl gP.out ?_<|u3 7 (.string B1) rfl gP.out ?_ ?_;(iterate 8 ·exact⟨by kernel_rfl,kI,by intro w _;go_simp⟩);have hcr:=XO B1
 have HCR:Hid (∀wx,Calls Tryz.prog 251 #[.string B1] wx fun e w'=>e=.returned (.int .u32 (BM B1))/\w'=wx):=fun wx=>XP B1 HB.out wx
 have HFB:Hid (∀wx,Calls Tryz.prog 250 #[.int .u32 (BM B1)] wx fun e w'=>e=.returned (.string (lI B1))/\Below wx.heap.size wx w'):=fun wx=>by
  have h:=zm (BM B1).toNat (by omega) wx;rw[show(((BM B1).toNat:Nat):Int)=BM B1 by omega] at h;exact h
 clear hcr;generalize BM B1=z at*;generalize lI B1=C2 at*
 refine rH 8 rfl (by kernel_rfl) fun K hK=>?_
 go_simp;refine(HCR.out _).mono ?_;rintro e y ⟨rfl,hy⟩;rw[hy];clear hy;refine hK.out _ _ gP.out (fun _=>?_);clear hK K
 refine rH 9 rfl (by kernel_rfl) fun K hK=>?_
 go_simp;refine(HFB.out _).mono ?_;rintro e w3 ⟨rfl,hb3⟩;have HB3:=aP (gP.out.trans (hb3.mono gP.out.size));refine hK.out _ _ HB3.out (fun _=>?_);clear hK K hb3 gP;have gP:=HB3;refine u3 10 (.bool (C1.toList==C2.toList)) rfl gP.out ?_<|u3 11 (.string B1) rfl gP.out ?_<|u3 12 (.string R1) rfl gP.out ?_<|u3 13 (.bool (C1.toList==C2.toList)) rfl gP.out ?_ ?_;(iterate 4 ·exact⟨by kernel_rfl,kI,by intro w _;go_simp⟩);refine eF (by kernel_rfl) ?_ _
 have Ba:Hid (VI (lW t) (.returned (.tuple #[.string B1,.string R1,.bool (C1.toList==C2.toList)]))):=by
  cases hq:(C1.toList==C2.toList) with
  |true=>
   rw[HS2.out,aD (xH hq)];exact rfl
  |false=>
   rw[HS2.out,ax (fun e=>by rw[e] at hq;simp at hq)];exact⟨_,_,rfl⟩
 clear HS2;generalize (C1.toList==C2.toList)=cq at*
 go_wp2_with fail
 go_ret3;exact⟨Ba.out,gP.out⟩
theorem Ef(h1:r.sig.size=32)(h2:r.sum.size=32):(bE r).length=65:=by
 show(Lib.strCells r.sig++Lib.strCells r.sum).length+1=65;rw[aF,Lib.strCells_length,Lib.strCells_length,h1,h2]
def Gg(o:Option (gm×ah))(e:Ending):Prop:=match o with
 |some x=>e=.returned (.tuple #[.agg (bE x.1).toArray,.string x.2,.bool true])
 |none=>∃(c:Array Value) (b:ah),c.size=65/\c.all (·.oneCell')=true/\e=.returned (.tuple #[.agg c,.string b,.bool false])
theorem QX{b:ah}(hr:pW b=some r):(bE r).length=65:=by
 unfold pW at hr
 split at hr
 ·cases hr
 split at hr
 ·cases hr
 split at hr
 ·have e:=ak hr;rw[<-e];refine Ef ?_ ?_
  ·simp only[aI];omega
  simp only[aI];omega
 cases hr
theorem MU(t:ah)(ht:t.size<=1099511627776)(w:aj):
  Calls Tryz.prog 240 #[.string t] w fun e w'=>Gg (oQ t) e/\Below w.heap.size w w':=by
 have HI:Hid ((Tryz.prog.info? 372).map (·.size)=some 65):=by show _=_;kernel_rfl
 have HZ:Hid (Tryz.zeroCells372.size=65/\Tryz.zeroCells372.all (·.oneCell')=true):=⟨by kernel_rfl,by kernel_rfl⟩
 have HC:Hid (∀wx,Calls Tryz.prog 307 #[.string t] wx fun e w'=>VI (lW t) e/\Below wx.heap.size wx w'):=fun wx=>RY t ht wx
 have HS:Hid (oQ t=(lW t).bind fun x=>(pW x.1).map fun r=>(r,x.2)):=rfl
 have HZB:Hid (∀x,lW t=some x->x.1.size<=1099511627776):=fun x hx=>by
  unfold lW at hx
  split at hx
  ·cases hx
  split at hx
  ·cases hx
  split at hx
  ·have e:=ak hx;rw[<-e];simp only[aI];omega
  cases hx
 go_enter Tryz.func240,Tryz.ntmps240
 go_wp2_with fail
 have HA:Hid (Below w.heap.size w (w.alloc (.cells Tryz.zeroCells372 372))/\(w.alloc (.cells Tryz.zeroCells372 372)).heap[w.heap.size]?=some (.cells Tryz.zeroCells372 372 (0,0))):=⟨(au _ _).alloc (ai _) _,aW _ _ _ rfl⟩;generalize w.alloc (.cells Tryz.zeroCells372 372)=w1 at*;refine(HC.out w1).mono ?_;rintro e w2 ⟨he,hb2⟩;have HA2:Hid (Below w.heap.size w w2/\w2.heap[w.heap.size]?=some (.cells Tryz.zeroCells372 372 (0,0))):=⟨HA.out.1.trans (hb2.mono HA.out.1.size),(hb2.block _ (gI.1 HA.out.2).1).trans HA.out.2⟩;clear HA HC hb2
 cases hcb:lW t with
 |none=>
  rw[hcb] at he;obtain⟨a,b,rfl⟩:=he
  have HN:Hid (oQ t=none):=by show _=_;rw[HS.out,hcb];rfl
  clear hcb HS HZB
  go_wp2_with (first
   | (generalize Tryz.zeroCells372=Z at*;refine bU rfl 372 (.tmp 2) (.tmp 15) rfl w.heap.size 0 Z rfl rfl (bM HA2.out.2 0 _ (by rw[HZ.out.1];decide)) (by rw[HZ.out.1];exact HI.out) HZ.out.2 ?_;refine dI ?_)
   |fail)
  have HW2:Hid (Below w.heap.size w (w2.setCells w.heap.size 0 Z.toList)/\(w2.setCells w.heap.size 0 Z.toList).rangeAt w.heap.size 0 Z.toList):=⟨ji _ _ HA2.out.1 (ai _),dW _ _ _ _ (bM HA2.out.2 0 _ (by rw[aR,HZ.out.1];decide))⟩;generalize w2.setCells w.heap.size 0 Z.toList=w3 at*;unfold Hid
  go_wp2_with fail
  refine bP (zw rfl _ _ _ w.heap.size 0 Z.toList _ rfl HW2.out.2 Tryz.underlying372 rfl (by rw[aR,HZ.out.1];exact HI.out)) rfl ?_;rw[HN.out];exact⟨⟨_,_,by rw[cK];exact HZ.out.1,by rw[cK];exact HZ.out.2,rfl⟩,HW2.out.1⟩
 |some x=>
  rw[hcb] at he;have he':e=.returned (.tuple #[.string x.1,.string x.2,.bool true]):=he;subst he';clear he
  have HF:Hid (∀wx,Calls Tryz.prog 308 #[.string x.1] wx fun e w'=>QW (pW x.1) e/\Below wx.heap.size wx w'):=fun wx=>QY x.1 (HZB.out x hcb) wx
  have HS2:Hid (oQ t=(pW x.1).map fun r=>(r,x.2)):=by show _=_;rw[HS.out,hcb];rfl
  clear hcb HS HZB;generalize Tryz.zeroCells372=Z at*
  go_wp2_with fail
  refine(HF.out w2).mono ?_;rintro e w3 ⟨he,hb3⟩;have Nw:Hid (Below w.heap.size w w3/\w3.heap[w.heap.size]?=some (.cells Z 372 (0,0))):=⟨HA2.out.1.trans (hb3.mono HA2.out.1.size),(hb3.block _ (gI.1 HA2.out.2).1).trans HA2.out.2⟩
  obtain⟨c,q,rfl,hc1,hc2,hfn⟩:∃(c:Array Value) (q:Bool),e=.returned (.tuple #[.agg c,.bool q])/\c.size=65/\c.all (·.oneCell')=true/\Gg (oQ t) (.returned (.tuple #[.agg c,.string x.2,.bool q])):=by
   rw[HS2.out]
   cases hr:pW x.1 with
   |none=>
    rw[hr] at he;obtain⟨c,h1,h2,rfl⟩:=he;exact⟨c,false,rfl,h1,h2,c,x.2,h1,h2,rfl⟩
   |some r=>
    rw[hr] at he;have he':e=.returned (.tuple #[.agg (bE r).toArray,.bool true]):=he;have hl:(bE r).length=65:=QX hr;exact⟨_,true,he',by rw[bT];exact hl,dY (lK r),rfl⟩
  have HCC:Hid ((c.size=65/\c.all (·.oneCell')=true)/\Gg (oQ t) (.returned (.tuple #[.agg c,.string x.2,.bool q]))):=⟨⟨hc1,hc2⟩,hfn⟩;clear hb3 HA2 HF HS2 hc1 hc2 hfn he
  go_wp2_with (first
   | (refine bU rfl 372 (.tmp 2) (.tmp 19) rfl w.heap.size 0 c rfl rfl (bM Nw.out.2 0 _ (by rw[HCC.out.1.1,HZ.out.1];decide)) (by rw[HCC.out.1.1];exact HI.out) HCC.out.1.2 ?_;refine dI ?_)
   |fail)
  have HW4:Hid (Below w.heap.size w (w3.setCells w.heap.size 0 c.toList)/\(w3.setCells w.heap.size 0 c.toList).rangeAt w.heap.size 0 c.toList/\(w3.setCells w.heap.size 0 c.toList).there w.heap.size 0 c.toList.length):=⟨ji _ _ Nw.out.1 (ai _),dW _ _ _ _ (bM Nw.out.2 0 _ (by rw[aR,HCC.out.1.1,HZ.out.1];decide)),World.there_setCells (bM Nw.out.2 0 _ (by rw[aR,HCC.out.1.1,HZ.out.1];decide)) _ _ _⟩;generalize w3.setCells w.heap.size 0 c.toList=w4 at*;unfold Hid
  go_wp2_with (first
   | (refine nX rfl 372 (.tmp 2) rfl w.heap.size 0 rfl c.toList _ HW4.out.2.1 Tryz.underlying372 rfl (by rw[aR,HCC.out.1.1];exact HI.out) ?_;refine dI ?_)
   |fail)
  rw[cK];unfold Hid
  go_wp2_with (first
   | (refine bU rfl 372 (.tmp 2) (.tmp 21) rfl w.heap.size 0 c rfl rfl HW4.out.2.2 (by rw[HCC.out.1.1];exact HI.out) HCC.out.1.2 ?_;refine dI ?_)
   |fail)
  have HW5:Hid (Below w.heap.size w (w4.setCells w.heap.size 0 c.toList)/\(w4.setCells w.heap.size 0 c.toList).rangeAt w.heap.size 0 c.toList):=⟨ji _ _ HW4.out.1 (ai _),dW _ _ _ _ HW4.out.2.2⟩;generalize w4.setCells w.heap.size 0 c.toList=w5 at*;unfold Hid
  go_wp2_with fail
  refine bP (zw rfl _ _ _ w.heap.size 0 c.toList _ rfl HW5.out.2 Tryz.underlying372 rfl (by rw[aR,HCC.out.1.1];exact HI.out)) rfl ?_;rw[cK];exact⟨HCC.out.2,HW5.out.1⟩
theorem Wl(b n k cap:Nat)(ao:Option Addr)(w:aj)(h0:w.cell? ⟨b,0,none⟩=some (.int .i64 n))(h1:w.cell? ⟨b,1,none⟩=some (.slice ao k cap))(hn:n<=1099511627776)(hk:k<=1099511627776):
  Calls Tryz.prog 100 #[.pointer (some ⟨b,0,none⟩)] w fun e w'=>e=.returned (.bool (decide (2*k+8<n)))/\Below w.heap.size w w':=by
 have n0:(n:Int)<=1099511627776:=by omega
 have k0:(k:Int)<=1099511627776:=by omega
 have HD:Hid (decide (2*k+8<n)=decide (2*(k:Int)+8<(n:Int))):=by
  show _=_;rw[decide_eq_decide];omega
 go_enter Tryz.func100,Tryz.ntmps100
 go_wp2_with fail
 go_quiet (fail)
 have HQ:Hid (Below w.heap.size w (w.drewN nq)):=below_drewN (au _ _) nq;generalize w.drewN nq=w1 at*
 go_wp2_with fail
 go_ret;exact⟨by rw[HD.out];rfl,HQ.out⟩
end
section
open Go.RowKit Go.Maps
def NS:Value->Option (DataW Unit)
 |.string s=>some (.lit (.string s.data.toList))
 |.int k n=>some (.lit (.int k n))
 |_=>none
variable {v v':Value}{d:DataW Unit}
theorem YN(h:NS v=some d)(h':NS v'=some d):v=v':=by
 cases v<;>simp only[NS,Option.some.injEq,reduceCtorEq] at h<;>cases v'<;>simp only[NS,Option.some.injEq,reduceCtorEq] at h'<;>subst h<;>injection h' with h'<;>injection h'
 ·rename_i a b
  rw[a,b]
 rename_i a
 rw[ByteArray.ext (fD.1 a)]
def xQ:List Value->Option (List (DataW Unit))
 |[]=>some []
 |v::l=>match NS v,xQ l with
   |some d,some r=>some (d::r)
   |_,_=>none
theorem JW:∀{l l':List Value} {d:List (DataW Unit)},xQ l=some d->xQ l'=some d->l=l'
 |[],[],_,_,_=>rfl
 |[],v::l,d,h,h'=>by
  have e:d=[]:=(ak h).symm;subst e;unfold xQ at h'
  split at h'
  ·cases h'
  cases h'
 |v::l,[],d,h,h'=>by
  have e:d=[]:=(ak h').symm;subst e;unfold xQ at h
  split at h
  ·cases h
  cases h
 |v::l,v'::l',d,h,h'=>by
  unfold xQ at h h'
  split at h
  ·rename_i d1 r1 e1 e2
   split at h'
   ·rename_i d2 r2 f1 f2
    have g:=(ak h).trans (ak h').symm;injection g with g1 g2;rw[YN e1 (g1▸f1),JW e2 (g2▸f2)]
   cases h'
  cases h
def ab2:Value->Option (DataW Unit×List MemPlace)
 |.agg cs=>(xQ cs.toList).map fun l=>(.agg l,[])
 |_=>none
theorem ab3{p p':List MemPlace}(h:ab2 v=some (d,p))(h':ab2 v'=some (d,p')):v=v':=by
 cases v<;>simp only[ab2,reduceCtorEq] at h
 cases v'<;>simp only[ab2,reduceCtorEq] at h'
 rename_i cs cs'
 obtain⟨l,e1,e2⟩:=aX.1 h;obtain⟨l',f1,f2⟩:=aX.1 h';injection e2 with e2 _;injection f2 with f2 _;rw[<-f2] at e2;injection e2 with e2;rw[fD.1 (JW e1 (e2▸f1))]
def GI:zC:=⟨ab2,ab3⟩
theorem BI:∀l:List Value,(∀v∈l,∃d,NS v=some d)->∃d,xQ l=some d
 |[],_=>⟨[],rfl⟩
 |v::l,h=>by
  obtain⟨d,hd⟩:=h v (aM ..);obtain⟨r,hr⟩:=BI l (fun x hx=>h x (aU _ hx));refine⟨d::r,?_⟩;unfold xQ;rw[hd,hr]
theorem ab0(r:gm):∃d p,GI.R (.agg (bE r).toArray)=some (d,p):=by
 obtain⟨l,hl⟩:=BI (bE r) (fun v hv=>by
  rcases aV.1 hv with rfl|hv
  ·exact⟨_,rfl⟩
  rcases bK.1 hv with hv|hv<;>(obtain⟨y,_,rfl⟩:=fH.1 hv;exact⟨_,rfl⟩))
 refine⟨.agg l,[],?_⟩;show(xQ (bE r)).map _=_;rw[hl];rfl
end
structure ku where
 count:Nat
 names:List ah
 last:ah->Option gm
def ku.none:ku:=⟨0,[],fun _=>.none⟩
def iY(L:ku)(r:gm):ku:=⟨L.count+1,if (L.last r.name).isSome=true then L.names else L.names++[r.name],fun y=>if y=r.name then some r else L.last y⟩
def qM(l:List gm):ku:=l.foldl iY ku.none
theorem Zx(l:List gm)(r:gm):qM (l++[r])=iY (qM l) r:=by
 unfold qM;rw[yX];rfl
structure wR(L:ku):Prop where
 has:∀x,x∈L.names↔(L.last x).isSome=true
 own:∀x r,L.last x=some r->r.name=x
 nd:L.names.Nodup
 le:L.names.length<=L.count
theorem wR.none:wR ku.none:=⟨fun _=>⟨fun h=>absurd h dz,fun h=>absurd h eX⟩,fun _ _ h=>absurd h.symm (RH _),Dz,ai _⟩
theorem wR.note{L:ku}(h:wR L)(r:gm):wR (iY L r):=by
 by_cases hq:(L.last r.name).isSome=true
 ·have e:(iY L r).names=L.names:=aD hq;refine⟨fun x=>?_,fun x s hs=>?_,by rw[e];exact h.nd,by rw[e];exact Nat.le_succ_of_le h.le⟩
  ·rw[e];show _↔(if x=r.name then some r else L.last x).isSome=true
   by_cases hx:x=r.name
   ·rw[aD hx,hx];exact⟨fun _=>rfl,fun _=>(h.has _).2 hq⟩
   rw[ax hx];exact h.has x
  have hs':(if x=r.name then some r else L.last x)=some s:=hs
  by_cases hx:x=r.name
  ·rw[aD hx] at hs';rw[<-ak hs',hx]
  rw[ax hx] at hs';exact h.own x s hs'
 have e:(iY L r).names=L.names++[r.name]:=ax hq;refine⟨fun x=>?_,fun x s hs=>?_,?_,?_⟩
 ·rw[e,bK,bg];show _↔(if x=r.name then some r else L.last x).isSome=true
  by_cases hx:x=r.name
  ·rw[aD hx];exact⟨fun _=>rfl,fun _=>aL hx⟩
  rw[ax hx];exact⟨fun g=>g.elim (fun g=>(h.has x).1 g) (fun g=>absurd g hx),fun g=>aG ((h.has x).2 g)⟩
 ·have hs':(if x=r.name then some r else L.last x)=some s:=hs
  by_cases hx:x=r.name
  ·rw[aD hx] at hs';rw[<-ak hs',hx]
  rw[ax hx] at hs';exact h.own x s hs'
 ·rw[e,mX];refine⟨h.nd,nk.2 ⟨dz,Dz⟩,fun a ha b hb=>?_⟩;rw[bg.1 hb];intro g;rw[g] at ha;exact hq ((h.has _).1 ha)
 rw[e,aF];exact Nat.succ_le_succ h.le
theorem adU:∀l:List gm,wR (qM l):=by
 intro l;unfold qM
 have g:∀(l:List gm) (L:ku),wR L->wR (l.foldl iY L):=by
  intro l
  induction l with
  |nil=>exact fun _ h=>h
  |cons r l ih=>exact fun L h=>ih _ (h.note r)
 exact g l _ wR.none
theorem Aw(l:List gm):(qM l).count=l.length:=by
 have g:∀(l:List gm) (L:ku),(l.foldl iY L).count=L.count+l.length:=by
  intro l
  induction l with
  |nil=>exact fun _=>rfl
  |cons r l ih=>
   intro L;rw[jr,ih];show L.count+1+l.length=L.count+(l.length+1);omega
 have h:=g l ku.none;rw[show ku.none.count=0 from rfl,bW] at h;exact h
def jZ(L:ku):List gm:=L.names.filterMap L.last
def yE(L:ku):Bool:=decide (2*L.names.length+8<L.count)
