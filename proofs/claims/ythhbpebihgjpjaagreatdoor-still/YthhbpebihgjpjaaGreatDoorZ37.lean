import Derived.Test.YthhbpebihgjpjaaGreatDoorZ03
import Derived.Laws.EntriesVeiled
namespace Go.Proofs.YthhbpebihgjpjaaGreatDoor
set_option maxRecDepth 1000000
set_option maxHeartbeats 20000000
set_option linter.all false
section
open Go.RowKit Go.Maps
def aa7:Value:=.func (.func 295) #[] #[]
def SH:Value:=.func (.func 296) #[] #[]
def Sj:Value:=.func (.func 297) #[] #[]
def Gh(x:ah):Option Value:=
 if x=⟨#[101,99,104,111]⟩ then some Sj else if x=⟨#[104,97,115,104]⟩ then some SH else if x=⟨#[99,97,116]⟩ then some aa7 else none
theorem Cn(w:aj):Calls Tryz.prog 221 #[] w fun e w'=>∃b,e=.returned (.map (some b))/\dU ahX .nilFunc w' b 3 Gh/\Below w.heap.size w w':=by
 have hmm:= @run_makeMap Tryz.prog;have m0:=dU.made ahX .nilFunc ⟨_,_,rfl⟩ w;obtain⟨w1,r1,m1,g1⟩:=m0.store Tryz.underlying346 (by decide) ⟨#[99,97,116]⟩ (by decide) aa7 ⟨_,_,rfl⟩;obtain⟨w2,r2,m2,g2⟩:=m1.store Tryz.underlying346 (by decide) ⟨#[104,97,115,104]⟩ (by decide) SH ⟨_,_,rfl⟩;obtain⟨w3,r3,m3,g3⟩:=m2.store Tryz.underlying346 (by decide) ⟨#[101,99,104,111]⟩ (by decide) Sj ⟨_,_,rfl⟩;have HM:=aP m3
 have HB:Hid (Below w.heap.size w w3):=(((au _ _).alloc (ai _) _).grown g1 (by simp) (fun k hk=>by cases hk;exact ai _)).grown g2 (by have:=g1.size;simp at this;omega) (fun k hk=>by cases hk;exact ai _)|>.grown g3 (by have:=g1.size;have:=g2.size;simp at*;omega) (fun k hk=>by cases hk;exact ai _)
 clear m0 m1 m2 m3 g1 g2 g3;unfold aa7 at r1;unfold SH at r2;unfold Sj at r3
 go_enter Tryz.func221,Tryz.ntmps221
 go_wp2_with fail
 go_ret;exact⟨w.heap.size,rfl,HM.out,HB.out⟩
