import Derived.Test.YthhbpebihgjpjaaGreatDoorZ08
import Derived.Test.YthhbpebihgjpjaaGreatDoorZ12
import Derived.Test.YthhbpebihgjpjaaGreatDoorZ09
namespace Go.Proofs.YthhbpebihgjpjaaGreatDoor
set_option maxRecDepth 1000000
set_option maxHeartbeats 20000000
set_option linter.all false
section
open Go.RowKit
def nP(s:ah):List ah:=(zX s).map fun x=>s.extract x.1 x.2
def og(f:ah->Option ah):List ah->ah->Option ah
 |[],out=>some out
 |x::r,out=>match f x with
   |some d=>og f r (out++d)
   |none=>none
def wZ(f:ah->Option ah):List ah->ah->Option ah
 |[],t=>some t
 |x::r,t=>match f x with
   |some d=>wZ f r ((t++wY d.size)++d)
   |none=>none
def rW:List ah->ah->ah
 |[],out=>out
 |x::r,out=>rW r ((out++⟨#[32]⟩)++x)
def Gi:List ah->ah
 |[]=>⟨#[10]⟩
 |x::r=>rW r x++⟨#[10]⟩
def ER(n:Nat):UInt8:=UInt8.ofNat (if n<10 then 48+n else 87+n)
def vH(s:ah):Nat->ah
 |0=>⟨#[]⟩
 |n+1=>(vH s n++⟨#[ER ((s.get! n).toNat/16)]⟩)++⟨#[ER ((s.get! n).toNat % 16)]⟩
def Ar(f:ah->Option ah):List ah->Option ah
 |[]=>none
 |y::q=>(wZ f q (y++⟨#[0]⟩)).map fun t=>vH (gM t) 32
def pX(f:ah->Option ah):List ah->Option ah
 |[]=>none
 |x::r=>if (x.toList==[99,97,116])=true then og f r ⟨#[]⟩ else if (x.toList==[104,97,115,104])=true then Ar f r else if (x.toList==[101,99,104,111])=true then some (Gi r) else none
def iU(o:Option ah):Option ah:=o.bind fun x=>if x.size<=4000 then some x else none
def mh(o:Option ah):Value:=.tuple #[.string (o.getD ⟨#[]⟩),.bool o.isSome]
structure Jr(w:aj)(rv:Value)(f:ah->Option ah):Prop where
 form:∃k cs,rv=.func (.func k) #[] cs
 ask:∀w',Below w.heap.size w w'->∀vw (x:ah),x.size<=1048576->Calls Tryz.prog 327 #[.agg #[vw,rv],.string x] w' fun e w''=>e=.returned (mh (f x))/\Below w'.heap.size w' w''
 small:∀x d,f x=some d->d.size<=1048576
theorem Jr.gY{w w':aj}{rv:Value}{f:ah->Option ah}(h:Jr w rv f)(hb:Below w.heap.size w w'):Jr w' rv f:=⟨h.form,fun w'' hb'=>h.ask w'' (hb.trans (hb'.mono hb.size)),h.small⟩
