import Derived.Test.YthhbpebihgjpjaaGreatDoorZ03
import Derived.Laws.EntriesVeiled
namespace Go.Proofs.YthhbpebihgjpjaaGreatDoor
set_option maxRecDepth 1000000
set_option maxHeartbeats 20000000
set_option linter.all false
section
open Go.RowKit Go.Maps
def aa9:Value:=.func (.func 295) #[] #[]
def SN:Value:=.func (.func 296) #[] #[]
def Sm:Value:=.func (.func 297) #[] #[]
def Gi(x:ah):Option Value:=
 if x=⟨#[101,99,104,111]⟩ then some Sm else if x=⟨#[104,97,115,104]⟩ then some SN else if x=⟨#[99,97,116]⟩ then some aa9 else none
theorem Cq(w:ak):Calls Tryz.prog 221 #[] w fun e w'=>∃b,e=.returned (.map (some b))/\eu ah0 .nilFunc w' b 3 Gi/\Below w.heap.size w w':=by
 have hmm:= @run_makeMap Tryz.prog;have m0:=eu.made ah0 .nilFunc ⟨_,_,rfl⟩ w;obtain⟨w1,r1,m1,g1⟩:=m0.store Tryz.underlying346 bS ⟨#[99,97,116]⟩ bS aa9 ⟨_,_,rfl⟩;obtain⟨w2,r2,m2,g2⟩:=m1.store Tryz.underlying346 bS ⟨#[104,97,115,104]⟩ bS SN ⟨_,_,rfl⟩;obtain⟨w3,r3,m3,g3⟩:=m2.store Tryz.underlying346 bS ⟨#[101,99,104,111]⟩ bS Sm ⟨_,_,rfl⟩;have HM:=aV m3
 have HB:Hid (Below w.heap.size w w3):=(((ay _ _).alloc (ai _) _).grown g1 eB (fun k hk=>by cases hk;exact ai _)).grown g2 (by have:=g1.size;simp at this;omega) (fun k hk=>by cases hk;exact ai _)|>.grown g3 (by have:=g1.size;have:=g2.size;simp at*;omega) (fun k hk=>by cases hk;exact ai _)
 clear m0 m1 m2 m3 g1 g2 g3;unfold aa9 at r1;unfold SN at r2;unfold Sm at r3
 go_enter Tryz.func221,Tryz.ntmps221
 go_wp2_with fail
 go_ret;exact⟨w.heap.size,rfl,HM.out,HB.out⟩
end
end Go.Proofs.YthhbpebihgjpjaaGreatDoor
