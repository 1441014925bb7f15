import Derived.Test.YthhbpebihgjpjaaGreatDoorZ53
import Derived.Test.YthhbpebihgjpjaaGreatDoorZ54
import Derived.Test.YthhbpebihgjpjaaGreatDoorZ56
namespace Go.Proofs.YthhbpebihgjpjaaGreatDoor
set_option maxHeartbeats 20000000
set_option linter.all false
section
open Go.ChangeShapes Go.WideShapes Go.RowKit
theorem Tryz.laidOut:laidOutB Tryz.prog=true:=by kernel_rfl
variable {W W':aj}
theorem Ip(h:aQ (fun k=>W.heap.size<=k) W W'):Below W.heap.size W {W' with tape:=W.tape}:=⟨h.os,rfl,h.output,h.size,fun k hk=>h.block k hk (by omega)⟩
theorem UO(h:aQ (fun k=>W.heap.size<=k) W W')(may:MemPlace->Prop):W.keptBut W' may:=(Ip h).frame may
variable {H:Type}
set_option maxRecDepth 100000 in
theorem Nt(os:Os)(enc:TypeId×Value->H):∃(w:aj) (tape:Tape) (i:Input),w.os=os/\(w.forCall tape i).Shaped Tryz.checked.prog/\i.vars=[]/\Input.okWide Tryz.checked.prog (w.forCall tape i) .any w.heap.size 10 i/\
   ((Rows.stillSpec.pre enc Tryz.checked.prog Tryz.f10 [] false (w.forCall tape i).memory i.args/\laidMetH Tryz.prog Rows.stillRow.laid (w.forCall tape i).memory)/\sizedMet enc Tryz.checked.prog Tryz.f10 (OpenSpec.ofChange Rows.stillSpec) false (w.forCall tape i).memory i.args)/\({}:Assume).holds Tryz.checked.prog (lone (Frame.enter Tryz.checked.prog 10 i.args .normal) [] (w.forCall tape i)):=
 ChangeSpec.witness_shaped (enc:=enc) (C:=Tryz.checked) (os:=os) (X:=fun w _=>laidMetH Tryz.prog Rows.stillRow.laid w) false ({World.doorLaid Tryz.prog 4000 os with heap:=(World.doorLaid Tryz.prog 4000 os).heap.modify 12 Uc}:aj) #[.slice none 0 0] 8 rfl (World.shaped_of_RefB (by kernel_rfl) (by kernel_rfl)) (by kernel_rfl) (by kernel_rfl) (by kernel_rfl) (aac os _)
set_option maxRecDepth 100000 in
theorem LY{enc:TypeId×Value->H}(W:aj)(base:Nat)(args:Array Value)(ds gs:List (DataW H))(before:List MemPlace)(hval0:∀(j:Nat) t v,Tryz.f10.params[j]?=some t->args[j]?=some v->Value.okWide Tryz.checked.prog W .any base t v)(hW:DataW.Whole enc Tryz.checked.prog Tryz.f10.params.toList Rows.stillSpec.vars false W args.toList ds gs before)(hsz:(DataW.weightsEach Tryz.checked.prog (Tryz.f10.params.toList++Rows.stillSpec.plain.varTypes Tryz.checked.prog) (ds++gs)).all (·<=reachBytes)=true)(hL:laidMetH Tryz.prog Rows.stillRow.laid W)(hsh:W.ShapedOpen Tryz.checked.prog):
  Calls Tryz.checked.prog 10 args W fun e W'=>∃v,e=.returned v/\Rows.stillSpec.post enc Tryz.checked.prog Tryz.f10 false true false false W args v W':=by
 have hW':=hW;have hlt:=hW.lt;obtain⟨p,q,hA0,hV,rfl,hfz,hnd⟩:=hW;have hA:DataW.TrodAll enc Tryz.prog W 0 (fun _=>true) true Tryz.f10.params.toList args.toList ds p:=hA0;rw[Tryz.params10] at hA hval0;obtain⟨v,d,rfl,rfl,h0⟩:=trodAll_one hA;obtain⟨rfl,rfl⟩:=trodVars_none hV;obtain⟨ao,n,cap,rfl⟩:=okWide_slice Tryz.underlying26 (hval0 0 26 v rfl rfl)
 have hw:∀m∈d.weights Tryz.prog 26,m<=reachBytes:=fun m hm=>by
  have:=qZ.1 hsz m (DataW.weights_mem_each (j:=0) (t:=26) (d:=d) (by rw[Tryz.params10];rfl) rfl m hm)
  simpa using this
 have hS:=Wq h0 hw ao n cap rfl
 have e1:Rows.stillSpec.fn H ([d]++[])={results:=[.lit (.bool true)],args:=[d]}:=by simp[Rows.stillSpec]
 obtain⟨a,t,hSe⟩:=Nr hL
 refine(ZY a t ao n cap W hS ⟨hSe,LF hL,VZ hSe (MZ hL) hsh⟩).mono fun e W' ⟨he,hk⟩=>?_
 subst he;simp only[fF] at hW' hlt;refine⟨_,rfl,_,_,_,[],p,[],hW',?_,?_,?_,UO hk _,fun h=>by cases h⟩
 ·rw[e1];exact trodAll_mk1 (shut_bool Tryz.underlying4 true)
 ·rw[e1];exact trodAll_mk1 (DataW.Trod.of_heap (w:={W' with tape:=W.tape}) (w':=W') rfl (Below.trod Tryz.laidOut (by kernel_rfl) (fC (by kernel_rfl)) h0 (Ip hk) hlt))
 rw[e1];rfl
set_option maxRecDepth 100000 in
theorem Ra(os:Os)(started:os.Started)(H:Type)(enc:TypeId×Value->H):
  ReturnsInHanded {} Tryz.checked os 10 .any (fun w args=>(Rows.stillSpec.pre enc Tryz.prog Tryz.f10 [] false w args/\laidMetH Tryz.prog Rows.stillRow.laid w)/\sizedMet enc Tryz.prog Tryz.f10 (OpenSpec.ofChange Rows.stillSpec) false w args)
   (Rows.stillSpec.post enc Tryz.prog Tryz.f10 false true false false):=by
 refine returnsInHanded_of_calls Tryz.own started (by kernel_rfl) (Nt os enc) ?_;intro w tape i _ hsh _ hok hpre hholds;obtain⟨_,_,_,fn',hfn',_,_,_,_,hval⟩:=hok;obtain rfl:fn'=Tryz.f10:=ak (hfn'.symm.trans Tryz.func10);obtain⟨⟨⟨ds,gs,before,hw,hc⟩,hx⟩,hz⟩:=hpre;have hw':=DataW.Whole.of_heap (w':=w.forCall tape i) (by rfl) hw
 refine(LY (w.forCall tape i) w.heap.size i.args ds gs before hval hw' (hz.weights hw) (hx.of_heap (by rfl)) hsh).mono fun e W' ⟨v,he,hp⟩=>?_
 subst he;exact ChangeSpec.post_blind hp
theorem aad:Rows.StillSaid:=
 OpenClaim.holds_of_wide 10 Tryz.f10 rfl rfl rfl rfl rfl rfl rfl ⟨rfl,rfl,rfl,rfl,rfl⟩ rfl rfl rfl rfl rfl (by kernel_rfl) Tryz.func10 Uz
  (fC (by kernel_rfl)) (by unfold Func.isWrapper;rw[ax (xX (by kernel_rfl))];exact⟨rfl,rfl⟩)
  (fun os started H enc _=>Ra os started H enc)
theorem still_holds:Rows.StillCardSaid:=
 Claim7.holds_tied_plain_at .later [] _ _ _ _
  aad (fun _ h=>by cases h) (by as_aux_lemma=>kernel_rfl) (fun _ h=>by cases h) Xn rfl ⟨rfl,rfl⟩ (by as_aux_lemma=>kernel_rfl) rfl
  (fun f fn hf hfn=>by
    obtain rfl : f = 10 := ak ((show Tryz.prog.funcNamed "builder/builderkeep.Still" = some 10 by as_aux_lemma => kernel_rfl).symm.trans hf) |>.symm
    obtain rfl:fn=Tryz.f10:=(ak (Tryz.func10.symm.trans hfn)).symm
    exact⟨by as_aux_lemma=>kernel_rfl,fun j t ht=>by
     rw[Tryz.params10] at ht
     obtain rfl:t=26:=by simpa using Array.mem_of_getElem? ht
     exact(show Tryz.prog.wantsStandIn 26=false by as_aux_lemma=>kernel_rfl)⟩)
  (by as_aux_lemma=>kernel_rfl)
#print axioms still_holds
