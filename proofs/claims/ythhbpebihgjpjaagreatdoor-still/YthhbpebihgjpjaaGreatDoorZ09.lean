import Derived.Test.YthhbpebihgjpjaaGreatDoorZ04
import Derived.Deep.RegionHeld3
namespace Go.Proofs.YthhbpebihgjpjaaGreatDoor
set_option maxRecDepth 1000000
set_option maxHeartbeats 20000000
set_option linter.all false
section
open Go.RowKit
def bL(w:ak)(v:Value)(l:List ah):Prop:=∃ao cap,v=.slice ao l.length cap/\l.length<=cap/\(((ao=none->cap=0)/\l=[]/\True)\/∃b o,ao=some ⟨b,o,none⟩/\∀k s,l[k]?=some s->w.cell? ⟨b,o+k,none⟩=some (.string s))
variable {w w':ak}{v:Value}
theorem bL.iy{l:List ah}(h:bL w v l)(hb:Below w.heap.size w w'):bL w' v l:=by
 obtain⟨ao,cap,rfl,hc,h|⟨b,o,rfl,h⟩⟩:=h
 ·exact⟨ao,cap,rfl,hc,aK h⟩
 exact⟨_,cap,rfl,hc,aP ⟨b,o,rfl,fun k s hs=>(aF (w:=w) (a:=⟨b,o+k,none⟩) (hb.block b (aG (h k s hs)))).trans (h k s hs)⟩⟩
variable {base s n:Nat}{e:TypeId}{xs:List Value}
theorem dR(h:w.ownsRow base e s v n xs)(hb:∀k,v.ownBlock=some k->w'.heap[k]?=w.heap[k]?):w'.ownsRow base e s v n xs:=by
 obtain⟨h1,⟨rfl,h0⟩|⟨g,cap,cur,rfl,hg,hh,r⟩⟩:=h
 ·exact⟨h1,aK ⟨rfl,h0⟩⟩
 exact⟨h1,aP ⟨g,cap,cur,rfl,hg,by rw[hb g rfl];exact hh,r⟩⟩
theorem bF(h:w.ownsRow base e s v n xs)(k:Nat)(hk:v.ownBlock=some k):base<=k/\k<w.heap.size:=by
 obtain⟨h1,⟨rfl,h0⟩|⟨g,cap,cur,rfl,hg,hh,r⟩⟩:=h
 ·cases hk
 have e:g=k:=ax hk;subst e;refine⟨hg,?_⟩
 rcases bX g w.heap.size with c|c
 ·exact c
 rw[fq c] at hh;cases hh
end
end Go.Proofs.YthhbpebihgjpjaaGreatDoor
