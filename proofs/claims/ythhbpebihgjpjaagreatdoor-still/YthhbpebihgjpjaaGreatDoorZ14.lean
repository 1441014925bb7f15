import Derived.Test.YthhbpebihgjpjaaGreatDoorZ04
import Derived.Deep.AppendLies
namespace Go.Proofs.YthhbpebihgjpjaaGreatDoor
set_option maxRecDepth 1000000
set_option maxHeartbeats 20000000
set_option linter.all false
section
open Go.RowKit
theorem Ij(l:List bL)(name:ah):(∃(j:Nat) (x:bL),iQ l name=(j:Int)/\l[j]?=some x/\x.1=name)\/(iQ l name=-1/\∀x∈l,x.1≠name):=by
 have key:∀(l:List bL) (k:Nat),(∃(j:Nat) (x:bL),pu name l k=((k+j:Nat):Int)/\l[j]?=some x/\x.1=name)\/(pu name l k=-1/\∀x∈l,x.1≠name):=by
  intro l
  induction l with
  |nil=>intro k;exact aL ⟨rfl,fun x hx=>by cases hx⟩
  |cons y r ih=>
   intro k
   by_cases e:y.1=name
   ·exact aG ⟨0,y,by rw[pu,aD e];rfl,rfl,e⟩
   rcases ih (k+1) with ⟨j,x,h1,h2,h3⟩|⟨h1,h2⟩
   ·exact aG ⟨j+1,x,by rw[pu,ax e,h1];congr 1;omega,by simpa using h2,h3⟩
   refine aL ⟨by rw[pu,ax e,h1],fun x hx=>?_⟩
   rcases aV.1 hx with rfl|hx
   ·exact e
   exact h2 x hx
 rcases key l 0 with ⟨j,x,h1,h2,h3⟩|h
 ·exact aG ⟨j,x,by rw[iQ,h1,bW],h2,h3⟩
 exact aL h
def adf(v0 v:Value)(w:aj):Prop:=∀k,v.ownBlock=some k->v0.ownBlock=some k\/w.heap.size<=k
def uw(a b:ah):Bool:=Op.bytesLess a.toList b.toList
def jU(l:List bL)(i:Nat):bL:=l.getD i (⟨#[]⟩,⟨#[]⟩)
theorem Co(l:List bL)(i:Nat)(h:i<l.length):l[i]?=some (jU l i):=by
 unfold jU;simp[h]
def Gc:List bL->Nat->List bL
 |l,0=>l
 |l,k+1=>if uw (jU l (k+1)).1 (jU l k).1=true then Gc ((l.set (k+1) (jU l k)).set k (jU l (k+1))) k else l
def xq(l:List bL)(name data:ah):List bL:=if iQ l name=-1 then Gc (l++[(name,data)]) l.length else l.set (iQ l name).toNat (name,data)
variable {a b:aj}{row:Option Nat}
theorem grownBy.setCell'(h:a.grownBy b row)(p:Addr)(v:Value)(hp:row=some p.block\/a.heap.size<=p.block):a.grownBy (b.setCell p v) row:=
 ⟨h.os,h.tape,h.output,by simpa[World.setCell] using h.size,fun k hk hne=>by
  rw[iP (by rintro rfl;rcases hp with hp|hp;exact hne hp.symm;omega)];exact h.block k hk hne⟩
structure lu where
 kind:Nat
 name:ah
 data:ah
def fO(l:List bL)(name:ah):ah:=if iQ l name=-1 then ⟨#[]⟩ else (jU l (iQ l name).toNat).2
def fe(l:List bL)(o:lu):List bL:=
 if o.kind=1 then xq l o.name o.data
 else if o.kind=2 then xq l o.name (fO l o.name++o.data)
 else if o.kind=3 then xq (iJ l o.name) o.data (fO l o.name)
 else iJ l o.name
theorem Iz(l:List bL)(name:ah):(iJ l name).length<=l.length:=pG _ _
structure bS where
 safe:List bL
 seen:List bL
 room:Int
 wait:List lu
 left:Int
 lit:Bool
 down:Bool
structure aQ(F:Nat->Prop)(w w':aj):Prop where
 os:w'.os=w.os
 output:w'.output=w.output
 size:w.heap.size<=w'.heap.size
 block:∀k,k<w.heap.size->¬F k->w'.heap[k]?=w.heap[k]?
theorem aQ.refl(F:Nat->Prop)(w:aj):aQ F w w:=⟨rfl,rfl,ai _,fun _ _ _=>rfl⟩
variable {F G:Nat->Prop}{w w':aj}
theorem aQ.mono(h:aQ F w w')(hg:∀k,F k->G k):aQ G w w':=⟨h.os,h.output,h.size,fun k hk hn=>h.block k hk (fun hf=>hn (hg k hf))⟩
theorem aQ.trans{c:aj}(h:aQ F a b)(k:aQ G b c)(hg:∀i,G i->F i\/a.heap.size<=i):aQ F a c:=
 ⟨k.os.trans h.os,k.output.trans h.output,aA h.size k.size,fun i hi hn=>(k.block i (ay hi h.size) (fun hgi=>by rcases hg i hgi with e|e;exact hn e;omega)).trans (h.block i hi hn)⟩
theorem aQ.TJ(h:w.grownBy w' row):aQ (fun k=>row=some k) w w':=⟨h.os,h.output,h.size,fun k hk hn=>h.block k hk (fun e=>hn e.symm)⟩
theorem aQ.of_below(F:Nat->Prop)(h:Below w.heap.size w w'):aQ F w w':=⟨h.os,h.output,h.size,fun k hk _=>h.block k hk⟩
theorem aQ.setCell(h:aQ F w w')(p:Addr)(v:Value)(hp:F p.block\/w.heap.size<=p.block):aQ F w (w'.setCell p v):=
 ⟨h.os,h.output,by simpa[World.setCell] using h.size,fun k hk hn=>by
  rw[iP (by rintro rfl;rcases hp with e|e;exact hn e;omega)];exact h.block k hk hn⟩
def nJ(d:bS):bS:=if d.lit then {d with left:=d.left-1,down:=d.down||decide (d.left-1<=0)} else d
def zT(l:List bL)(n:Int):Nat->Int
 |0=>n
 |j+1=>zT l n j+((jU l j).2.size:Int)
def Oy(d:bS)(n:Int):Bool:=decide (d.room<zT d.seen n d.seen.length)
