import Derived.Test.YthhbpebihgjpjaaGreatDoorZ08
import Derived.Test.YthhbpebihgjpjaaGreatDoorZ12
import Derived.Test.YthhbpebihgjpjaaGreatDoorZ09
namespace Go.Proofs.YthhbpebihgjpjaaGreatDoor
set_option maxRecDepth 1000000
set_option maxHeartbeats 20000000
set_option linter.all false
section
open Go.RowKit
def nT(s:ah):List ah:=(zZ s).map fun x=>s.extract x.1 x.2
def oh(f:ah->Option ah):List ah->ah->Option ah
 |[],out=>some out
 |x::r,out=>match f x with
   |some d=>oh f r (out++d)
   |none=>none
def xq(f:ah->Option ah):List ah->ah->Option ah
 |[],t=>some t
 |x::r,t=>match f x with
   |some d=>xq f r ((t++xk d.size)++d)
   |none=>none
def rZ:List ah->ah->ah
 |[],out=>out
 |x::r,out=>rZ r ((out++⟨#[32]⟩)++x)
def Gj:List ah->ah
 |[]=>⟨#[10]⟩
 |x::r=>rZ r x++⟨#[10]⟩
def ES(n:Nat):UInt8:=UInt8.ofNat (if n<10 then 48+n else 87+n)
def vJ(s:ah):Nat->ah
 |0=>⟨#[]⟩
 |n+1=>(vJ s n++⟨#[ES ((s.get! n).toNat/16)]⟩)++⟨#[ES ((s.get! n).toNat % 16)]⟩
def Av(f:ah->Option ah):List ah->Option ah
 |[]=>none
 |y::q=>(xq f q (y++⟨#[0]⟩)).map fun t=>vJ (gW t) 32
def qc(f:ah->Option ah):List ah->Option ah
 |[]=>none
 |x::r=>if (x.toList==[99,97,116])=true then oh f r ⟨#[]⟩ else if (x.toList==[104,97,115,104])=true then Av f r else if (x.toList==[101,99,104,111])=true then some (Gj r) else none
def iY(o:Option ah):Option ah:=o.bind fun x=>if x.size<=4000 then some x else none
def mD(o:Option ah):Value:=.tuple #[.string (o.getD ⟨#[]⟩),.bool o.isSome]
structure Jt(w:ak)(rv:Value)(f:ah->Option ah):Prop where
 form:∃k cs,rv=.func (.func k) #[] cs
 ask:∀w',Below w.heap.size w w'->∀vw (x:ah),x.size<=1048576->Calls Tryz.prog 327 #[.agg #[vw,rv],.string x] w' fun e w''=>e=.returned (mD (f x))/\Below w'.heap.size w' w''
 small:∀x d,f x=some d->d.size<=1048576
theorem Jt.iy{w w':ak}{rv:Value}{f:ah->Option ah}(h:Jt w rv f)(hb:Below w.heap.size w w'):Jt w' rv f:=⟨h.form,fun w'' hb'=>h.ask w'' (hb.trans (hb'.mono hb.size)),h.small⟩
end
end Go.Proofs.YthhbpebihgjpjaaGreatDoor
