import Derived.Test.YthhbpebihgjpjaaGreatDoorZ04
import Derived.Deep.AppendLies
namespace Go.Proofs.YthhbpebihgjpjaaGreatDoor
set_option maxRecDepth 1000000
set_option maxHeartbeats 20000000
set_option linter.all false
section
open Go.RowKit
theorem Ik(l:List bP)(name:ah):(∃(j:Nat) (x:bP),iW l name=(j:Int)/\l[j]?=some x/\x.1=name)\/(iW l name=-1/\∀x∈l,x.1≠name):=by
 have key:∀(l:List bP) (k:Nat),(∃(j:Nat) (x:bP),pE name l k=((k+j:Nat):Int)/\l[j]?=some x/\x.1=name)\/(pE name l k=-1/\∀x∈l,x.1≠name):=by
  intro l
  induction l with
  |nil=>intro k;exact aP ⟨rfl,fun x hx=>by cases hx⟩
  |cons y r ih=>
   intro k
   by_cases e:y.1=name
   ·exact aK ⟨0,y,by rw[pE,aH e];rfl,rfl,e⟩
   rcases ih (k+1) with ⟨j,x,h1,h2,h3⟩|⟨h1,h2⟩
   ·exact aK ⟨j+1,x,by rw[pE,aA e,h1];congr 1;omega,by simpa using h2,h3⟩
   refine aP ⟨by rw[pE,aA e,h1],fun x hx=>?_⟩
   rcases bg.1 hx with rfl|hx
   ·exact e
   exact h2 x hx
 rcases key l 0 with ⟨j,x,h1,h2,h3⟩|h
 ·exact aK ⟨j,x,by rw[iW,h1,dh],h2,h3⟩
 exact aP h
def adi(v0 v:Value)(w:ak):Prop:=∀k,v.ownBlock=some k->v0.ownBlock=some k\/w.heap.size<=k
def uD(a b:ah):Bool:=Op.bytesLess a.toList b.toList
def jY(l:List bP)(i:Nat):bP:=l.getD i (⟨#[]⟩,⟨#[]⟩)
theorem Cr(l:List bP)(i:Nat)(h:i<l.length):l[i]?=some (jY l i):=by
 unfold jY;simp[h]
def Gd:List bP->Nat->List bP
 |l,0=>l
 |l,k+1=>if uD (jY l (k+1)).1 (jY l k).1=true then Gd ((l.set (k+1) (jY l k)).set k (jY l (k+1))) k else l
def xB(l:List bP)(name data:ah):List bP:=if iW l name=-1 then Gd (l++[(name,data)]) l.length else l.set (iW l name).toNat (name,data)
variable {a b:ak}{row:Option Nat}
theorem grownBy.setCell'(h:a.grownBy b row)(p:Addr)(v:Value)(hp:row=some p.block\/a.heap.size<=p.block):a.grownBy (b.setCell p v) row:=
 ⟨h.os,h.tape,h.output,by simpa[World.setCell] using h.size,fun k hk hne=>by
  rw[au _ _ _ _ (by rintro rfl;rcases hp with hp|hp;exact hne hp.symm;omega)];exact h.block k hk hne⟩
structure lG where
 kind:Nat
 name:ah
 data:ah
def fZ(l:List bP)(name:ah):ah:=if iW l name=-1 then ⟨#[]⟩ else (jY l (iW l name).toNat).2
def fC(l:List bP)(o:lG):List bP:=
 if o.kind=1 then xB l o.name o.data
 else if o.kind=2 then xB l o.name (fZ l o.name++o.data)
 else if o.kind=3 then xB (iO l o.name) o.data (fZ l o.name)
 else iO l o.name
theorem IA(l:List bP)(name:ah):(iO l name).length<=l.length:=pK _ _
structure bY where
 safe:List bP
 seen:List bP
 room:Int
 wait:List lG
 left:Int
 lit:Bool
 down:Bool
structure aW(F:Nat->Prop)(w w':ak):Prop where
 os:w'.os=w.os
 output:w'.output=w.output
 size:w.heap.size<=w'.heap.size
 block:∀k,k<w.heap.size->¬F k->w'.heap[k]?=w.heap[k]?
theorem aW.refl(F:Nat->Prop)(w:ak):aW F w w:=⟨rfl,rfl,ai _,fun _ _ _=>rfl⟩
variable {F G:Nat->Prop}{w w':ak}
theorem aW.mono(h:aW F w w')(hg:∀k,F k->G k):aW G w w':=⟨h.os,h.output,h.size,fun k hk hn=>h.block k hk (fun hf=>hn (hg k hf))⟩
theorem aW.trans{c:ak}(h:aW F a b)(k:aW G b c)(hg:∀i,G i->F i\/a.heap.size<=i):aW F a c:=
 ⟨k.os.trans h.os,k.output.trans h.output,aC h.size k.size,fun i hi hn=>(k.block i (aB hi h.size) (fun hgi=>by rcases hg i hgi with e|e;exact hn e;omega)).trans (h.block i hi hn)⟩
theorem aW.TN(h:w.grownBy w' row):aW (fun k=>row=some k) w w':=⟨h.os,h.output,h.size,fun k hk hn=>h.block k hk (fun e=>hn e.symm)⟩
theorem aW.of_below(F:Nat->Prop)(h:Below w.heap.size w w'):aW F w w':=⟨h.os,h.output,h.size,fun k hk _=>h.block k hk⟩
theorem aW.setCell(h:aW F w w')(p:Addr)(v:Value)(hp:F p.block\/w.heap.size<=p.block):aW F w (w'.setCell p v):=
 ⟨h.os,h.output,by simpa[World.setCell] using h.size,fun k hk hn=>by
  rw[au _ _ _ _ (by rintro rfl;rcases hp with e|e;exact hn e;omega)];exact h.block k hk hn⟩
def nL(d:bY):bY:=if d.lit then {d with left:=d.left-1,down:=d.down||decide (d.left-1<=0)} else d
def zV(l:List bP)(n:Int):Nat->Int
 |0=>n
 |j+1=>zV l n j+((jY l j).2.size:Int)
def OA(d:bY)(n:Int):Bool:=decide (d.room<zV d.seen n d.seen.length)
end
end Go.Proofs.YthhbpebihgjpjaaGreatDoor
