import Derived.Deep.Strs
import Derived.ProofKit
import Derived.OpenShut
import Derived.Test.YthhbpebihgjpjaaGreatDoorRows
import Derived.LaidMore
import Derived.Stop.Joined
import Derived.Stop.LaidTwo
import Derived.Test.YthhbpebihgjpjaaGreatDoorZ50
namespace Go.Proofs.YthhbpebihgjpjaaGreatDoor
set_option maxRecDepth 1000000
set_option maxHeartbeats 20000000
set_option linter.all false
section
open Go.ChangeShapes Go.WideShapes Go.RowKit Go.Deep
section
variable {H:Type} {enc:TypeId×Value->H}
variable {P:Program}
theorem Ch{e:TypeId}:∀{l:List (DataW H)} {d:DataW H},d∈l->∀n∈d.weights P e,n∈DataW.weightsAll P e l
 |[],_,h,_,_=>by cases h
 |x::l,d,h,n,hn=>by
  simp only[DataW.weightsAll,bK]
  rcases aV.1 h with rfl|h
  ·exact aG hn
  exact aL (Ch h n hn)
theorem Lv:reachBytes=140737488351232:=rfl
theorem afB(a:Addr)(i:Nat)(h:a.spot=none):a.add i=⟨a.block,a.off+i,none⟩:=by
 obtain⟨b,o,s⟩:=a;subst h;exact Addr.add_mid b o i
end
section
variable {H:Type} {enc:TypeId×Value->H}
variable {W:aj}
theorem agj{fuel:Nat}{cs:List Value}{x:DataW H×List MemPlace}(h:DataW.trod enc Tryz.prog W 0 (fun _=>true) true fuel 58 cs=some x)(hw:∀n∈x.1.weights Tryz.prog 58,n<=reachBytes)
  (b o:Nat) (hb:b<W.heap.size) (hr:W.rangeAt b o cs):∃y,tJ W y b o:=by
 obtain⟨xs,n,_,rfl,hlen,hxl,hf⟩:=DataW.trod_struct Tryz.underlying58 h
 have h5:Tryz.prog.cellsOf 58=5:=by kernel_rfl
 have c3:Tryz.prog.cellsOf 3=1:=by kernel_rfl
 have c9:Tryz.prog.cellsOf 9=1:=by kernel_rfl
 rw[h5] at hlen
 match cs,hlen with
 |[v0,v1,v2,v3,v4],_=>
  have hx5:xs.length=5:=hxl
  match xs,hx5 with
  |[x0,x1,x2,x3,x4],_=>
   have t0:DataW.trod enc Tryz.prog W 0 (fun _=>true) true n 3 [v0]=some x0:=by
    have h:=hf 0 _ rfl;change DataW.trod _ _ _ _ _ _ _ _ (List.take (Tryz.prog.cellsOf 3) _)=_ at h;rw[c3] at h;exact h
   have t1:DataW.trod enc Tryz.prog W 0 (fun _=>true) true n 3 [v1]=some x1:=by
    have h:=hf 1 _ rfl;change DataW.trod _ _ _ _ _ _ _ _ (List.take (Tryz.prog.cellsOf 3) _)=_ at h;rw[c3] at h;exact h
   have t2:DataW.trod enc Tryz.prog W 0 (fun _=>true) true n 3 [v2]=some x2:=by
    have h:=hf 2 _ rfl;change DataW.trod _ _ _ _ _ _ _ _ (List.take (Tryz.prog.cellsOf 3) _)=_ at h;rw[c3] at h;exact h
   have t3:DataW.trod enc Tryz.prog W 0 (fun _=>true) true n 9 [v3]=some x3:=by
    have h:=hf 3 _ rfl;change DataW.trod _ _ _ _ _ _ _ _ (List.take (Tryz.prog.cellsOf 9) _)=_ at h;rw[c9] at h;exact h
   have t4:DataW.trod enc Tryz.prog W 0 (fun _=>true) true n 9 [v4]=some x4:=by
    have h:=hf 4 _ rfl;change DataW.trod _ _ _ _ _ _ _ _ (List.take (Tryz.prog.cellsOf 9) _)=_ at h;rw[c9] at h;exact h
   have hwf:∀(j:Nat) t (d:DataW H),[3,3,3,9,9][j]?=some t->[x0.1,x1.1,x2.1,x3.1,x4.1][j]?=some d->∀m∈d.weights Tryz.prog t,m<=reachBytes:=fun j t d ht hd m hm=>by
    refine hw m ?_;rw[DataW.weights,Tryz.underlying58];exact DataW.weights_mem_each (ts:=[3,3,3,9,9]) ht hd m hm
   obtain⟨n0,e0,_,_⟩:=DataW.trod_int Tryz.underlying3 t0;obtain⟨n1,e1,_,_⟩:=DataW.trod_int Tryz.underlying3 t1;obtain⟨n2,e2,_,_⟩:=DataW.trod_int Tryz.underlying3 t2;obtain⟨s3,e3,g3,_⟩:=DataW.trod_string Tryz.underlying9 t3;obtain⟨s4,e4,g4,_⟩:=DataW.trod_string Tryz.underlying9 t4;simp only[List.cons.injEq,and_true] at e0 e1 e2 e3 e4;subst e0 e1 e2 e3 e4
   have hs3:s3.size<=140737488351232:=by
    rw[<-Lv];refine hwf 3 _ _ rfl rfl _ ?_;rw[g3];simp only[DataW.weights,bg];rw[aR];rfl
   have hs4:s4.size<=140737488351232:=by
    rw[<-Lv];refine hwf 4 _ _ rfl rfl _ ?_;rw[g4];simp only[DataW.weights,bg];rw[aR];rfl
   exact⟨⟨n0,n1,n2,s3,s4⟩,hr,hb,hs3,hs4⟩
theorem Wq{v:Value}{d:DataW H}{ps:List MemPlace}(h:DataW.Trod enc Tryz.prog W 0 (fun _=>true) true 26 v d ps)(hw:∀n∈d.weights Tryz.prog 26,n<=reachBytes)
  (ao:Option Addr) (n cap:Nat) (hv:v=.slice ao n cap):qF W ao n:=by
 obtain⟨fuel,h⟩:=h;subst hv
 have h5:Tryz.prog.cellsOf 58=5:=by kernel_rfl
 rcases open_slice Tryz.underlying26 h with ⟨hc,_⟩|⟨a,len,cap',m,k,D,Pl,hc,_,hl,hm,hmm,hx,hall⟩
 ·have hc':[Value.slice ao n cap]=[.slice none 0 0]:=hc;simp only[List.cons.injEq,and_true,Value.slice.injEq] at hc';exact⟨by omega,aG hc'.2.1⟩
 have hc':[Value.slice ao n cap]=[.slice (some a) len cap']:=hc;simp only[List.cons.injEq,and_true,Value.slice.injEq] at hc';obtain⟨rfl,rfl,rfl⟩:=hc';simp only[if_true] at hmm;subst hmm;obtain⟨rfl,rfl⟩:=Prod.mk.inj hx
 have hwl:(n+(m-n))*Tryz.prog.bytesOf 58<=reachBytes:=by
  refine hw _ ?_;rw[DataW.weights,Tryz.underlying26];refine aV.2 (aG ?_)
  simp
 have hby:Tryz.prog.bytesOf 58=56:=by kernel_rfl
 rw[hby,Lv] at hwl;refine⟨by omega,?_⟩
 by_cases h0:n=0
 ·exact aG h0
 right
 obtain⟨cs0,aim,_⟩:=hall 0 (by omega);rw[h5] at hall aim;obtain⟨_,hl0,hc0⟩:=World.cells?_some aim
 have hcell0:∃u,W.cell? (a.add 0)=some u:=by
  have:=hc0 0 (by omega);rw[eP (by omega)] at this;exact⟨_,by simpa[Addr.add] using this⟩
 obtain⟨u0,hu0⟩:=hcell0
 have hs:a.spot=none:=by
  have:=World.cell?_spot hu0
  simpa[Addr.add] using this
 have hb:a.block<W.heap.size:=by
  have:=aC hu0
  simpa[Addr.add] using this
 refine⟨a.block,a.off,by obtain⟨b,o,s⟩:=a;cases hs;rfl,fun i hi=>?_⟩;obtain⟨cs,hcs,ht⟩:=hall i (by omega);obtain⟨_,hlc,hcc⟩:=World.cells?_some hcs;refine agj ht (fun q hq=>hw q ?_) a.block (a.off+i*5) hb (fun j v hv=>?_)
 ·rw[DataW.weights,Tryz.underlying26];exact aU _ (fq _ (Ch (fH.2 ⟨i,kS.2 hi,rfl⟩) q hq))
 have hj:j<5:=by
  have:=(aJ.1 hv).1;omega
 have:=hcc j hj;rw[hv,afB a (i*5) hs,Addr.add_mid] at this;exact this
end
end
section
open Go.ChangeShapes Go.WideShapes Go.RowKit
theorem Tryz.own:ownKnob Tryz.prog.godebug=none:=by kernel_rfl
def Uc:Obj->Obj
 |.cells _ t frozen=>.cells (Go.Pinned.utf8FirstZ.map fun n:Nat=>Value.int .u8 (n:Int)).toArray t frozen
 |o=>o
variable {P:Program}{W:aj}
theorem Ns{nm:String}{ti tp te ts:TypeId}{ms:Array (String×TypeId)}{f:Field}
  (hi:P.underlying ti=some (.interface ms)) (hrow:∀u,P.typeName? 3 u=some nm->u=tp)
  (hp:P.underlying tp=some (.pointer te)) (he:P.underlying te=some (.struct #[f])) (hft:f.type=ts) (hfo:f.offset=0) (hs:P.underlying ts=some .string) (hc:P.cellsOf te=1) (hcs:P.cellsOf ts=1):
  ∀(rest:List (String×DataW Unit)) (l:List (String×Nat×List UInt8)) (ps:List MemPlace),
   (∀x∈l,P.globalNamed x.1=some x.2.1/\(P.globals[x.2.1]?).map (·.type)=some ti)->
   DataW.LaidVars P W ((l.map fun x=>(x.1,.iface nm (.ptr (.agg [.lit (.string x.2.2)]))))++rest) ps->
   (∀b off,MemPlace.cell b off∈ps->(∃c t,W.heap[b]?=some (.cells c t (0,0)))/\∀u v,W.cell? ⟨b,off,none⟩=some (.iface u v)->Value.okWide P W .any 0 u v)->
   ∃L:List (Addr×ah),L.length=l.length/\(L.map fun y=>MemPlace.cell y.1.block y.1.off).Sublist ps/\
    ∀(i:Nat) x y,l[i]?=some x->L[i]?=some y->W.cell? ⟨x.2.1,0,none⟩=some (.iface tp (.pointer (some y.1)))/\W.cell? y.1=some (.string y.2)/\y.2.data.toList=x.2.2/\∃c t,W.heap[y.1.block]?=some (.cells c t (0,0)):=by
 intro rest l
 induction l with
 |nil=>intro ps _ _ _;exact⟨[],rfl,by simp,fun i x y h=>by simp at h⟩
 |cons x r ih=>
  intro ps hg hv hrows;obtain⟨g0,t0,cs0,f0,p0,q0,hg0,ht0,hv0,hd0,hr,e0⟩:=hv;obtain⟨hgx,htx⟩:=hg x (by simp);obtain rfl:=ak (hgx.symm.trans hg0);obtain rfl:=ak (htx.symm.trans ht0);subst e0;obtain⟨l0⟩:=cs0
  have ok0:∀u v,l0=[.iface u v]->Value.okWide P W .any 0 u v:=fun u v e=>by
   subst e;exact(hrows x.2.1 0 (by simp[MemPlace.row])).2 u v (by simpa using World.var?_cell hg0 hv0 0)
  obtain⟨a0,s0,rfl,hc0,hs0,hz0,rfl⟩:=errorString_of_trod hi hrow hp he hft hfo hs hc hcs hd0 ok0;obtain⟨L,hlen,hsub,hL⟩:=ih q0 (fun y hy=>hg y (by simp[hy])) hr (fun b off hm=>hrows b off (by simp[hm]));refine⟨(a0,s0)::L,by simp[hlen],?_,?_⟩
  ·refine List.Sublist.trans ?_ (Ey (MemPlace.row ⟨x.2.1,0,none⟩ 1) (MemPlace.row a0 1++q0)|>.trans (by simp));simp only[mD]
   have e1:MemPlace.row a0 1=[MemPlace.cell a0.block a0.off]:=by simp[MemPlace.row]
   rw[e1];exact List.Sublist.cons_cons _ hsub
  intro i y z hy hz
  cases i with
  |zero=>
   simp only[jk,Option.some.injEq] at hy hz;subst hy;subst hz;exact⟨by simpa using World.var?_cell hg0 hv0 0,hc0,hs0,(hrows a0.block a0.off (by simp[MemPlace.row])).1⟩
  |succ i=>
   simp only[iE] at hy hz;exact hL i y z hy hz
theorem Tryz.star : "*" ++ "errors.errorString" = "*errors.errorString" := by decide
theorem Tryz.row66 (u : TypeId) (h : Tryz.prog.typeName? 3 u = some "*errors.errorString") : u = 472 :=
 typeName_ptr_named (nm := "errors.errorString") (by rw [Tryz.star]; kernel_rfl) (by kernel_rfl) (by decide) u (by rw [Tryz.star]; exact h)
theorem Tryz.cells107:Tryz.prog.cellsOf 490=1:=by kernel_rfl
theorem Tryz.cells9:Tryz.prog.cellsOf 9=1:=by kernel_rfl
theorem Tryz.et : Tryz.prog.globalNamed "errors.errorType" = some 9 := by kernel_rfl
theorem Tryz.rt : (Tryz.prog.cutTypes.find? (·.1 == "internal/reflectlite.rtype")).map (·.2) = some 276 := by kernel_rfl
theorem Tryz.oneRow:((List.range 501).filter fun t=>Tryz.prog.rowNamed t [101,114,114,111,114])=[70]:=by kernel_rfl
theorem Tryz.size:Tryz.prog.types.size=501:=by kernel_rfl
def zO:List (String×Nat×List UInt8):=[
 ("builder/builder.ErrName", 0, [97, 32, 110, 97, 109, 101, 32, 116, 104, 97, 116, 32, 109, 97, 121, 32, 110, 111, 116, 32, 98, 101]),
 ("builder/builder.ErrNone", 1, [116, 104, 101, 114, 101, 32, 105, 115, 32, 110, 111, 32, 115, 117, 99, 104, 32, 102, 105, 108, 101]),
 ("builder/builder.ErrRoom", 2, [116, 104, 101, 114, 101, 32, 105, 115, 32, 110, 111, 32, 114, 111, 111, 109]),
 ("builder/builder.ErrDown", 3, [116, 104, 101, 32, 102, 105, 108, 101, 115, 32, 97, 114, 101, 32, 100, 111, 119, 110]),
 ("builder/builder.ErrSyntax", 4, [97, 32, 108, 105, 110, 101, 32, 116, 104, 97, 116, 32, 109, 97, 121, 32, 110, 111, 116, 32, 98, 101]),
 ("builder/builder.ErrRule", 5, [110, 111, 32, 115, 117, 99, 104, 32, 114, 117, 108, 101, 44, 32, 111, 114, 32, 111, 110, 101, 32, 116, 104, 97, 116, 32, 105, 115, 32, 116, 104, 101, 114, 101, 32, 97, 108, 114, 101, 97, 100, 121]),
 ("builder/builder.ErrTwice", 6, [97, 32, 102, 105, 108, 101, 32, 116, 104, 97, 116, 32, 116, 119, 111, 32, 109, 97, 107, 101]),
 ("builder/builder.ErrCycle", 7, [97, 32, 102, 105, 108, 101, 32, 116, 104, 97, 116, 32, 104, 97, 110, 103, 115, 32, 111, 110, 32, 105, 116, 115, 101, 108, 102]),
 ("builder/builder.ErrTarget", 8, [110, 111, 32, 115, 117, 99, 104, 32, 116, 97, 114, 103, 101, 116])]
theorem vW(k:Nat)(hk:k<9):∃x,zO[k]?=some x/\x.2.1=k+0/\1<=x.2.2.length/\x.2.2.length<=100:=by
 match k,hk with
 |0,_=>exact⟨_,rfl,rfl,by decide,by decide⟩
 |1,_=>exact⟨_,rfl,rfl,by decide,by decide⟩
 |2,_=>exact⟨_,rfl,rfl,by decide,by decide⟩
 |3,_=>exact⟨_,rfl,rfl,by decide,by decide⟩
 |4,_=>exact⟨_,rfl,rfl,by decide,by decide⟩
 |5,_=>exact⟨_,rfl,rfl,by decide,by decide⟩
 |6,_=>exact⟨_,rfl,rfl,by decide,by decide⟩
 |7,_=>exact⟨_,rfl,rfl,by decide,by decide⟩
 |8,_=>exact⟨_,rfl,rfl,by decide,by decide⟩
 |n+9,h=>exact absurd h (by omega)
theorem Gw:∀x∈zO,Tryz.prog.globalNamed x.1=some x.2.1/\(Tryz.prog.globals[x.2.1]?).map (·.type)=some 70:=by
 have h:(zO.all fun x=>Tryz.prog.globalNamed x.1==some x.2.1&&(Tryz.prog.globals[x.2.1]?).map (·.type)==some 70)=true:=by kernel_rfl
 intro x hx;have:=qZ.1 h x hx
 simpa using this
theorem Nr(h:laidMetH Tryz.prog Rows.stillRow.laid W):∃a t,uN a t W:=by
 have h' : laidMet Tryz.prog (("builder/sums.roundWords", Rows.laid_builder_sums_roundWords) :: ("unicode/utf8.acceptRanges", Rows.laid_unicode_utf8_acceptRanges) :: ((zO.map fun x => (x.1, .iface "*errors.errorString" (.ptr (.agg [.lit (.string x.2.2)])))) ++ [("unicode/utf8.first", Rows.laid_unicode_utf8_first)])) W ∧ handlesMet Tryz.prog [("errors.errorType", Rows.laid_errors_errorType)] W := h;obtain ⟨⟨ps0, hv0, aiB, abw⟩, hh⟩ := h';obtain ⟨_, _, _, _, p1, q1, _, _, _, _, hv1, e1⟩ := hv0;obtain ⟨_, _, _, _, p2, ps, _, _, _, _, hv, e2⟩ := hv1
 have aeS:ps.Sublist ps0:=by
  rw[e1,e2];exact(Ey _ _).trans (Ey _ _)
 have hnd:=aiB.sublist aeS
 have hrows:=fun b off hm=>abw b off (aeS.subset hm)
 obtain ⟨L, hlen, hsub, hL⟩ := Ns Tryz.underlying70 Tryz.row66 Tryz.underlying472 Tryz.underlying490 rfl rfl Tryz.underlying9 Tryz.cells107 Tryz.cells9 [("unicode/utf8.first", Rows.laid_unicode_utf8_first)] zO ps Gw hv hrows;have anq : L.length = 9 := hlen;have hnd' := hnd.sublist hsub
 have at':∀k,k<9->∃y,L[k]?=some y:=fun k hk=>⟨_,eP (by omega)⟩
 refine⟨fun k=>((L[k]?).map (·.1)).getD ⟨0,0,none⟩,fun k=>((L[k]?).map (·.2)).getD ByteArray.empty,?_,?_,?_,?_,?_,?_,?_⟩
 ·intro k hk;obtain⟨x,hx,e,_,_⟩:=vW k hk;obtain⟨y,hy⟩:=at' k hk;have:=(hL k x y hx hy).1;rw[e] at this;simp only[hy,nu,bY];exact this
 ·intro k hk;obtain⟨x,hx,e,_,_⟩:=vW k hk;obtain⟨y,hy⟩:=at' k hk;simp only[hy,nu,bY];exact(hL k x y hx hy).2.2.2
 ·intro k hk;obtain⟨x,hx,e,_,_⟩:=vW k hk;obtain⟨y,hy⟩:=at' k hk;simp only[hy,nu,bY];exact(hL k x y hx hy).2.1
 ·intro k hk;obtain⟨x,hx,e,h1,_⟩:=vW k hk;obtain⟨y,hy⟩:=at' k hk;simp only[hy,nu,bY];have:=(hL k x y hx hy).2.2.1;show 1<=y.2.data.size;rw[<-aR,this];exact h1
 ·intro k hk;obtain⟨x,hx,e,_,h2⟩:=vW k hk;obtain⟨y,hy⟩:=at' k hk;simp only[hy,nu,bY];have:=(hL k x y hx hy).2.2.1;show y.2.data.size<=100;rw[<-aR,this];exact h2
 ·intro j k hj hk e;obtain⟨y,hy⟩:=at' j hj;obtain⟨z,hz⟩:=at' k hk;simp only[hy,hz,nu,bY] at e
  have hy':(L.map fun y=>MemPlace.cell y.1.block y.1.off)[j]?=some (MemPlace.cell y.1.block y.1.off):=by simp[hy]
  have hz':(L.map fun y=>MemPlace.cell y.1.block y.1.off)[k]?=some (MemPlace.cell y.1.block y.1.off):=by simp[hz,e]
  exact(List.getElem?_inj (i:=j) (by simp;omega) hnd').1 (hy'.trans hz'.symm)
 obtain⟨name,u,ty,e1,e2,e3,e4,e5⟩:=hh _ (bg.2 rfl);have en:name=[101,114,114,111,114]:=(ak e1).symm;subst en;obtain rfl:=ak (Tryz.rt.symm.trans e2)
 have hm:ty∈(List.range 501).filter fun t=>Tryz.prog.rowNamed t [101,114,114,111,114]:=Mx.2 ⟨kS.2 (by rw[<-Tryz.size];exact e3),e4⟩
 rw[Tryz.oneRow] at hm;obtain rfl:=bg.1 hm
 have hh:typeHandle Tryz.prog 70=.pointer (some ⟨14,70,none⟩):=by kernel_rfl
 rw[hh] at e5
 simpa using World.var?_cell Tryz.et e5 0
theorem Us{w:aj}{n:String}{g:Nat}{cs:Array Value}(hg:P.globalNamed n=some g)(h:w.var? P n=some cs):g<w.heap.size:=by
 simp only[World.var?,hg,aaW] at h
 split at h
 ·rename_i he
  exact(gI.1 he).1
 cases h
theorem Tryz.acceptAt : Tryz.prog.globalNamed "unicode/utf8.acceptRanges" = some 13 := by kernel_rfl
theorem MZ(h:laidMetH Tryz.prog Rows.stillRow.laid W):14<=W.heap.size:=by
 have h' : laidMet Tryz.prog (("builder/sums.roundWords", Rows.laid_builder_sums_roundWords) :: ("unicode/utf8.acceptRanges", Rows.laid_unicode_utf8_acceptRanges) :: ((zO.map fun x => (x.1, .iface "*errors.errorString" (.ptr (.agg [.lit (.string x.2.2)])))) ++ [("unicode/utf8.first", Rows.laid_unicode_utf8_first)])) W ∧ handlesMet Tryz.prog [("errors.errorType", Rows.laid_errors_errorType)] W := h;obtain ⟨⟨ps0, hv0, aiB, abw⟩, hh⟩ := h';obtain ⟨_, _, _, _, p1, q1, _, _, _, _, hv1, e1⟩ := hv0;obtain ⟨g, _, cs, _, p2, ps, hg, _, hc, _, hv, e2⟩ := hv1;obtain rfl := ak (Tryz.acceptAt.symm.trans hg);exact Us Tryz.acceptAt hc
theorem VZ{a:Nat->Addr}{t:Nat->ah}(hS:uN a t W)(hg:14<=W.heap.size)(hsh:W.ShapedOpen Tryz.prog):Gl a W where
 size:=hg
 errs:=fun k hk=>hS.cell k hk
 most:=cell_of_shapedOpen_int (t:=3) (zero:=#[.int .i64 0]) (k:=.i64) hsh (fC (by kernel_rfl)) (by kernel_rfl) rfl (by kernel_rfl) (by kernel_rfl) Tryz.underlying3
theorem Tryz.gRounds : Tryz.prog.globalNamed "builder/sums.roundWords" = some 10 := by kernel_rfl
theorem Tryz.tRounds:(Tryz.prog.globals[10]?).map (·.type)=some 412:=by kernel_rfl
theorem Tryz.cRounds:Tryz.prog.cellsOf 412=64:=by kernel_rfl
theorem Tryz.cU32:Tryz.prog.cellsOf 88=1:=by kernel_rfl
theorem LF(h:laidMetH Tryz.prog Rows.stillRow.laid W):jw W:=by
 have h' : laidMet Tryz.prog (("builder/sums.roundWords", Lib.tabData .u32 (keys.map fun x : Nat => (x : Int))) :: (Rows.stillRow.laid.filter fun x => x.2.handleName?.isNone).tail) W := h.1;have ht := Lib.tabIs_of_head Tryz.gRounds Tryz.tRounds Tryz.underlying412 Tryz.underlying88 Tryz.cU32 Tryz.cRounds h';intro i hi;have := ht.cell Tryz.gRounds i (by rw [jR]; exact hi);rw [this];unfold Ia;have hi' : i < keys.length := hi
 simp[hi']
theorem aac(os:Os)(args:Array Value):laidMetH Tryz.prog Rows.stillRow.laid (({World.doorLaid Tryz.prog 4000 os with heap:=(World.doorLaid Tryz.prog 4000 os).heap.modify 12 Uc}:aj).forCall (fun _ _=>0) ⟨#[],args,[]⟩).memory:=
 laidMetH_of_parts3 (fuel:=8) (laidMet_of_run' 8 (by kernel_rfl) (by kernel_rfl)) (by kernel_rfl) (by kernel_rfl)
