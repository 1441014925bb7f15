import Derived.Test.YthhbpebihgjpjaaGreatDoorZ03
import Derived.Deep.Strs
import Derived.ProofKit
import Derived.OpenShut
namespace Go.Proofs.YthhbpebihgjpjaaGreatDoor
set_option maxRecDepth 1000000
set_option maxHeartbeats 20000000
set_option linter.all false
section
open Go.ChangeShapes Go.WideShapes Go.RowKit Go.Deep
section
variable {H:Type} {enc:TypeId×Value->H}
theorem Cj{P:Program}{e:TypeId}:∀{l:List (DataW H)} {d:DataW H},d∈l->∀n∈d.weights P e,n∈DataW.weightsAll P e l
 |[],_,h,_,_=>by cases h
 |x::l,d,h,n,hn=>by
  simp only[DataW.weightsAll,bQ]
  rcases bg.1 h with rfl|h
  ·exact aK hn
  exact aP (Cj h n hn)
theorem Lv:reachBytes=140737488351232:=rfl
theorem afF(a:Addr)(i:Nat)(h:a.spot=none):a.add i=⟨a.block,a.off+i,none⟩:=by
 obtain⟨b,o,s⟩:=a;subst h;exact Addr.add_mid b o i
end
section
variable {H:Type} {enc:TypeId×Value->H}
variable {W:ak}
theorem agn{fuel:Nat}{cs:List Value}{x:DataW H×List MemPlace}(h:DataW.trod enc Tryz.prog W 0 (fun _=>true) true fuel 58 cs=some x)(hw:∀n∈x.1.weights Tryz.prog 58,n<=reachBytes)
  (b o:Nat) (hb:b<W.heap.size) (hr:W.rangeAt b o cs):∃y,tN W y b o:=by
 obtain⟨xs,n,_,rfl,hlen,hxl,hf⟩:=DataW.trod_struct Tryz.underlying58 h
 have h5:Tryz.prog.cellsOf 58=5:=dD
 have c3:Tryz.prog.cellsOf 3=1:=dD
 have c9:Tryz.prog.cellsOf 9=1:=dD
 rw[h5] at hlen
 match cs,hlen with
 |[v0,v1,v2,v3,v4],_=>
  have hx5:xs.length=5:=hxl
  match xs,hx5 with
  |[x0,x1,x2,x3,x4],_=>
   have t0:DataW.trod enc Tryz.prog W 0 (fun _=>true) true n 3 [v0]=some x0:=by
    have h:=hf 0 _ rfl;change DataW.trod _ _ _ _ _ _ _ _ (List.take (Tryz.prog.cellsOf 3) _)=_ at h;rw[c3] at h;exact h
   have t1:DataW.trod enc Tryz.prog W 0 (fun _=>true) true n 3 [v1]=some x1:=by
    have h:=hf 1 _ rfl;change DataW.trod _ _ _ _ _ _ _ _ (List.take (Tryz.prog.cellsOf 3) _)=_ at h;rw[c3] at h;exact h
   have t2:DataW.trod enc Tryz.prog W 0 (fun _=>true) true n 3 [v2]=some x2:=by
    have h:=hf 2 _ rfl;change DataW.trod _ _ _ _ _ _ _ _ (List.take (Tryz.prog.cellsOf 3) _)=_ at h;rw[c3] at h;exact h
   have t3:DataW.trod enc Tryz.prog W 0 (fun _=>true) true n 9 [v3]=some x3:=by
    have h:=hf 3 _ rfl;change DataW.trod _ _ _ _ _ _ _ _ (List.take (Tryz.prog.cellsOf 9) _)=_ at h;rw[c9] at h;exact h
   have t4:DataW.trod enc Tryz.prog W 0 (fun _=>true) true n 9 [v4]=some x4:=by
    have h:=hf 4 _ rfl;change DataW.trod _ _ _ _ _ _ _ _ (List.take (Tryz.prog.cellsOf 9) _)=_ at h;rw[c9] at h;exact h
   have hwf:∀(j:Nat) t (d:DataW H),[3,3,3,9,9][j]?=some t->[x0.1,x1.1,x2.1,x3.1,x4.1][j]?=some d->∀m∈d.weights Tryz.prog t,m<=reachBytes:=fun j t d ht hd m hm=>by
    refine hw m ?_;rw[DataW.weights,Tryz.underlying58];exact DataW.weights_mem_each (ts:=[3,3,3,9,9]) ht hd m hm
   obtain⟨n0,e0,_,_⟩:=DataW.trod_int Tryz.underlying3 t0;obtain⟨n1,e1,_,_⟩:=DataW.trod_int Tryz.underlying3 t1;obtain⟨n2,e2,_,_⟩:=DataW.trod_int Tryz.underlying3 t2;obtain⟨s3,e3,g3,_⟩:=DataW.trod_string Tryz.underlying9 t3;obtain⟨s4,e4,g4,_⟩:=DataW.trod_string Tryz.underlying9 t4;simp only[List.cons.injEq,and_true] at e0 e1 e2 e3 e4;subst e0 e1 e2 e3 e4
   have hs3:s3.size<=140737488351232:=by
    rw[<-Lv];refine hwf 3 _ _ rfl rfl _ ?_;rw[g3];simp only[DataW.weights,bD];rw[aX];rfl
   have hs4:s4.size<=140737488351232:=by
    rw[<-Lv];refine hwf 4 _ _ rfl rfl _ ?_;rw[g4];simp only[DataW.weights,bD];rw[aX];rfl
   exact⟨⟨n0,n1,n2,s3,s4⟩,hr,hb,hs3,hs4⟩
theorem Ws{v:Value}{d:DataW H}{ps:List MemPlace}(h:DataW.Trod enc Tryz.prog W 0 (fun _=>true) true 26 v d ps)(hw:∀n∈d.weights Tryz.prog 26,n<=reachBytes)
  (ao:Option Addr) (n cap:Nat) (hv:v=.slice ao n cap):qJ W ao n:=by
 obtain⟨fuel,h⟩:=h;subst hv
 have h5:Tryz.prog.cellsOf 58=5:=dD
 rcases open_slice Tryz.underlying26 h with ⟨hc,_⟩|⟨a,len,cap',m,k,D,Pl,hc,_,hl,hm,hmm,hx,hall⟩
 ·have hc':[Value.slice ao n cap]=[.slice none 0 0]:=hc;simp only[List.cons.injEq,and_true,Value.slice.injEq] at hc';exact⟨aJ,aK hc'.2.1⟩
 have hc':[Value.slice ao n cap]=[.slice (some a) len cap']:=hc;simp only[List.cons.injEq,and_true,Value.slice.injEq] at hc';obtain⟨rfl,rfl,rfl⟩:=hc';simp only[if_true] at hmm;subst hmm;obtain⟨rfl,rfl⟩:=Prod.mk.inj hx
 have hwl:(n+(m-n))*Tryz.prog.bytesOf 58<=reachBytes:=by
  refine hw _ ?_;rw[DataW.weights,Tryz.underlying26];refine bg.2 (aK ?_)
  simp
 have hby:Tryz.prog.bytesOf 58=56:=dD
 rw[hby,Lv] at hwl;refine⟨aJ,?_⟩
 by_cases h0:n=0
 ·exact aK h0
 right
 obtain⟨cs0,aip,_⟩:=hall 0 aJ;rw[h5] at hall aip;obtain⟨_,hl0,hc0⟩:=World.cells?_some aip
 have hcell0:∃u,W.cell? (a.add 0)=some u:=by
  have:=hc0 0 aJ;rw[fe aJ] at this;exact⟨_,by simpa[Addr.add] using this⟩
 obtain⟨u0,hu0⟩:=hcell0
 have hs:a.spot=none:=by
  have:=World.cell?_spot hu0
  simpa[Addr.add] using this
 have hb:a.block<W.heap.size:=by
  have:=aG hu0
  simpa[Addr.add] using this
 refine⟨a.block,a.off,by obtain⟨b,o,s⟩:=a;cases hs;rfl,fun i hi=>?_⟩;obtain⟨cs,hcs,ht⟩:=hall i aJ;obtain⟨_,hlc,hcc⟩:=World.cells?_some hcs;refine agn ht (fun q hq=>hw q ?_) a.block (a.off+i*5) hb (fun j v hv=>?_)
 ·rw[DataW.weights,Tryz.underlying26];exact aZ _ (fD _ (Cj (fP.2 ⟨i,kW.2 hi,rfl⟩) q hq))
 have hj:j<5:=by
  have:=(aN.1 hv).1;omega
 have:=hcc j hj;rw[hv,afF a (i*5) hs,Addr.add_mid] at this;exact this
end
end
end Go.Proofs.YthhbpebihgjpjaaGreatDoor
