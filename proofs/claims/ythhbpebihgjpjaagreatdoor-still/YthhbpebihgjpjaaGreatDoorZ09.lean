import Derived.Test.YthhbpebihgjpjaaGreatDoorZ04
import Derived.Deep.RegionHeld3
namespace Go.Proofs.YthhbpebihgjpjaaGreatDoor
set_option maxRecDepth 1000000
set_option maxHeartbeats 20000000
set_option linter.all false
section
open Go.RowKit
def bG(w:aj)(v:Value)(l:List ah):Prop:=∃ao cap,v=.slice ao l.length cap/\l.length<=cap/\(((ao=none->cap=0)/\l=[]/\True)\/∃b o,ao=some ⟨b,o,none⟩/\∀k s,l[k]?=some s->w.cell? ⟨b,o+k,none⟩=some (.string s))
variable {w w':aj}{v:Value}
theorem bG.gY{l:List ah}(h:bG w v l)(hb:Below w.heap.size w w'):bG w' v l:=by
 obtain⟨ao,cap,rfl,hc,h|⟨b,o,rfl,h⟩⟩:=h
 ·exact⟨ao,cap,rfl,hc,aG h⟩
 exact⟨_,cap,rfl,hc,aL ⟨b,o,rfl,fun k s hs=>(aB (w:=w) (a:=⟨b,o+k,none⟩) (hb.block b (aC (h k s hs)))).trans (h k s hs)⟩⟩
variable {base s n:Nat}{e:TypeId}{xs:List Value}
theorem dL(h:w.ownsRow base e s v n xs)(hb:∀k,v.ownBlock=some k->w'.heap[k]?=w.heap[k]?):w'.ownsRow base e s v n xs:=by
 obtain⟨h1,⟨rfl,h0⟩|⟨g,cap,cur,rfl,hg,hh,r⟩⟩:=h
 ·exact⟨h1,aG ⟨rfl,h0⟩⟩
 exact⟨h1,aL ⟨g,cap,cur,rfl,hg,by rw[hb g rfl];exact hh,r⟩⟩
theorem bA(h:w.ownsRow base e s v n xs)(k:Nat)(hk:v.ownBlock=some k):base<=k/\k<w.heap.size:=by
 obtain⟨h1,⟨rfl,h0⟩|⟨g,cap,cur,rfl,hg,hh,r⟩⟩:=h
 ·cases hk
 have e:g=k:=ak hk;subst e;refine⟨hg,?_⟩
 rcases bR g w.heap.size with c|c
 ·exact c
 rw[eU c] at hh;cases hh
