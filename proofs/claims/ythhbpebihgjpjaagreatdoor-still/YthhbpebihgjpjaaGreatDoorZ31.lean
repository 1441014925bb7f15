import Derived.Test.YthhbpebihgjpjaaGreatDoorZ09
import Derived.Deep.AppendLies
import Derived.Laws.AppendOwnNone
namespace Go.Proofs.YthhbpebihgjpjaaGreatDoor
set_option maxRecDepth 1000000
set_option maxHeartbeats 20000000
set_option linter.all false
section
open Go.RowKit
theorem mV{w:aj}{base:Nat}{v:Value}{l:List ah}(h:w.ownsRow base 9 1 v l.length (l.map Value.string)):bG w v l:=by
 obtain⟨_,⟨rfl,h0⟩|⟨g,cap,cur,rfl,_,hh,hc,_,_,htk⟩⟩:=h
 ·have:l=[]:=mF h0;subst this;exact⟨none,0,rfl,ai _,aG ⟨fun _=>rfl,rfl,trivial⟩⟩
 refine⟨_,cap,rfl,hc,aL ⟨g,0,rfl,fun k s hs=>?_⟩⟩;have hk:k<l.length:=(aJ.1 hs).1;rw[bW,bZ hh,<-bV]
 have h2:(l.map Value.string)[k]?=some (.string s):=by simp[hs]
 rw[<-htk,xL,aD (by omega)] at h2;exact h2
