import Derived.Deep.QuietTactic
import Derived.Laws.BitsAllLaws
import Derived.Laws.Strings
import Derived.LoopN
import Derived.Deep.RegionHeld
import Derived.Below
import Derived.IntWalk
namespace Go.Proofs.YthhbpebihgjpjaaGreatDoor
set_option maxHeartbeats 20000000
set_option linter.all false
section
open Go.RowKit
variable {p:Prop}
theorem aV(h:p):Hid p:=h
variable {P:Program}{ops:Array Oper}{Q:Exit->Act->World->Prop}{md:Region.Mode}{S:World->Prop}{oi:Oper}{fuel:Nat}{listed:Array Bool}{a:Act}{w:World}
theorem tH(i:Nat)(v:Value)(hi:ops[i]?=some oi)(hS:S w)(hy:YieldsIf P ops S oi v a)(h:wpAnyH P md ops Q S fuel (listed.setIfInBounds i true) (a.put oi.dst v) w)(hs:Region.noSelect ops=true:=by kernel_rfl)(hf:Region.free md ops listed i=true:=by kernel_rfl)(hr:(Region.ready md ops listed).contains i=true:=by kernel_rfl)(hQ:∀c a w,Q (.panic c) (a.put oi.dst v) w->Q (.panic c) a w:=by exact fun _ _ _ h=>h):wpAnyH P md ops Q S (fuel+1) listed a w:=wpAnyH_take hi hs hf hr hQ hy hS h
theorem tA(i:Nat)(v:Value)(hi:ops[i]?=some oi)(hy:Yields P ops oi v a)(h:wpAny P md ops Q fuel (listed.setIfInBounds i true) (a.put oi.dst v) w)(hs:Region.noSelect ops=true:=by kernel_rfl)(hf:Region.free md ops listed i=true:=by kernel_rfl)(hr:(Region.ready md ops listed).contains i=true:=by kernel_rfl)(hQ:∀c a w,Q (.panic c) (a.put oi.dst v) w->Q (.panic c) a w:=by exact fun _ _ _ h=>h):wpAny P md ops Q (fuel+1) listed a w:=wpAny_take hi hs hf hr hQ hy h
variable {o:Oper}
theorem rH(i:Nat)(ho:ops[i]?=some o)(h:∀K':Act->World->Prop,Shut (∀a w,S w->(S w->wpAnyH P md ops Q S fuel (listed.setIfInBounds i true) a w)->K' a w)->if Region.wanted o (yielded ops a.tmps)=true then Oper.wp P o a w K' Q else K' (a.put o.dst undef) w)(hr:Region.ready md ops listed=[i]:=by kernel_rfl):wpAnyH P md ops Q S (fuel+1) listed a w:=wpAnyH_ready hr (by simp) (AllReadyH.cons ho h AllReadyH.nil)
theorem rA(i:Nat)(ho:ops[i]?=some o)(h:∀K':Act->World->Prop,(∀a w,wpAny P md ops Q fuel (listed.setIfInBounds i true) a w->K' a w)->if Region.wanted o (yielded ops a.tmps)=true then Oper.wp P o a w K' Q else K' (a.put o.dst undef) w)(hr:Region.ready md ops listed=[i]:=by kernel_rfl):wpAny P md ops Q (fuel+1) listed a w:=wpAny_ready hr (by simp) (AllReady.cons ho h AllReady.nil)
variable {o':Oper}
theorem pA(i j:Nat)(ho:ops[i]?=some o)(ho':ops[j]?=some o')(h:∀K':Act->World->Prop,(∀a w,wpAny P md ops Q fuel (listed.setIfInBounds i true) a w->K' a w)->if Region.wanted o (yielded ops a.tmps)=true then Oper.wp P o a w K' Q else K' (a.put o.dst undef) w)(h':∀K':Act->World->Prop,(∀a w,wpAny P md ops Q fuel (listed.setIfInBounds j true) a w->K' a w)->if Region.wanted o' (yielded ops a.tmps)=true then Oper.wp P o' a w K' Q else K' (a.put o'.dst undef) w)(hr:Region.ready md ops listed=[i,j]:=by kernel_rfl):wpAny P md ops Q (fuel+1) listed a w:=wpAny_ready hr (by simp) (AllReady.cons ho h (AllReady.cons ho' h' AllReady.nil))
theorem pH(i j:Nat)(ho:ops[i]?=some o)(ho':ops[j]?=some o')(h:∀K':Act->World->Prop,Shut (∀a w,S w->(S w->wpAnyH P md ops Q S fuel (listed.setIfInBounds i true) a w)->K' a w)->if Region.wanted o (yielded ops a.tmps)=true then Oper.wp P o a w K' Q else K' (a.put o.dst undef) w)(h':∀K':Act->World->Prop,Shut (∀a w,S w->(S w->wpAnyH P md ops Q S fuel (listed.setIfInBounds j true) a w)->K' a w)->if Region.wanted o' (yielded ops a.tmps)=true then Oper.wp P o' a w K' Q else K' (a.put o'.dst undef) w)(hr:Region.ready md ops listed=[i,j]:=by kernel_rfl):wpAnyH P md ops Q S (fuel+1) listed a w:=wpAnyH_ready hr (by simp) (AllReadyH.cons ho h (AllReadyH.cons ho' h' AllReadyH.nil))
variable {b:Nat}
theorem iT{e n:Nat}{z:Value}(h:(P.info? e).map (fun i=>(i.size,i.bytes,i.zero))=some (n,b,some z)):∃ti,Hid (P.info? e=some ti/\ti.size=n/\ti.bytes=b/\ti.zero=some z):=by
  obtain⟨ti,hti,htj⟩:=Option.map_eq_some_iff.1 h;simp only[Prod.mk.injEq] at htj;exact⟨ti,hti,htj.1,htj.2.1,htj.2.2⟩
theorem u3(i:Nat)(v:Value)(hi:ops[i]?=some oi)(hS:S w)(h:wpAnyH P md ops Q S fuel (listed.setIfInBounds i true) (a.put oi.dst v) w)(hy:YieldsIf P ops S oi v a:=by
  refine Or.inl ⟨by kernel_rfl,?_⟩
  first|(rintro _ rfl;go_simp)|(rintro w' ⟨q0,q1,q2,q3,q4,q5,q6⟩;go_simp)|(rintro w' ⟨q1,q2,q3⟩;go_simp)|(rintro w' ⟨q1,q2⟩;go_simp)|(intro w' q1;go_simp)) (hs:Region.noSelect ops=true:=by kernel_rfl) (hf:Region.free md ops listed i=true:=by kernel_rfl) (hr:(Region.ready md ops listed).contains i=true:=by kernel_rfl) (hQ:∀c a w,Q (.panic c) (a.put oi.dst v) w->Q (.panic c) a w:=by exact fun _ _ _ h=>h):wpAnyH P md ops Q S (fuel+1) listed a w:=wpAnyH_take hi hs hf hr hQ hy hS h
theorem uC(i:Nat)(v:Value)(hi:ops[i]?=some oi)(hS:S w)(h:wpAnyH P md ops Q S fuel (listed.setIfInBounds i true) (a.put oi.dst v) w)(hy:YieldsIf P ops S oi v a:=by
  refine Or.inl ⟨by kernel_rfl,?_⟩;intro w' hS;clear hS
  go_simp) (hs:Region.noSelect ops=true:=by kernel_rfl) (hf:Region.free md ops listed i=true:=by kernel_rfl) (hr:(Region.ready md ops listed).contains i=true:=by kernel_rfl) (hQ:∀c a w,Q (.panic c) (a.put oi.dst v) w->Q (.panic c) a w:=by exact fun _ _ _ h=>h):wpAnyH P md ops Q S (fuel+1) listed a w:=wpAnyH_take hi hs hf hr hQ hy hS h
theorem uA(i:Nat)(v:Value)(hi:ops[i]?=some oi)(h:wpAny P md ops Q fuel (listed.setIfInBounds i true) (a.put oi.dst v) w)(hy:Yields P ops oi v a:=by
  refine Or.inl ⟨by rfl,?_⟩;intro w
  go_simp) (hs:Region.noSelect ops=true:=by kernel_rfl) (hf:Region.free md ops listed i=true:=by kernel_rfl) (hr:(Region.ready md ops listed).contains i=true:=by kernel_rfl) (hQ:∀c a w,Q (.panic c) (a.put oi.dst v) w->Q (.panic c) a w:=by exact fun _ _ _ h=>h):wpAny P md ops Q (fuel+1) listed a w:=wpAny_take hi hs hf hr hQ hy h
theorem sH(i:Nat)(hi:ops[i]?=some oi)(hS:S w)(h:wpAnyH P md ops Q S fuel (listed.setIfInBounds i true) (a.put oi.dst undef) w)(hy:YieldsIf P ops S oi undef a:=by exact Or.inr ⟨by kernel_rfl,rfl⟩)(hs:Region.noSelect ops=true:=by kernel_rfl)(hf:Region.free md ops listed i=true:=by kernel_rfl)(hr:(Region.ready md ops listed).contains i=true:=by kernel_rfl)(hQ:∀c a w,Q (.panic c) (a.put oi.dst undef) w->Q (.panic c) a w:=by exact fun _ _ _ h=>h):wpAnyH P md ops Q S (fuel+1) listed a w:=wpAnyH_take hi hs hf hr hQ hy hS h
theorem sA(i:Nat)(hi:ops[i]?=some oi)(h:wpAny P md ops Q fuel (listed.setIfInBounds i true) (a.put oi.dst undef) w)(hy:Yields P ops oi undef a:=by exact Or.inr ⟨by kernel_rfl,rfl⟩)(hs:Region.noSelect ops=true:=by kernel_rfl)(hf:Region.free md ops listed i=true:=by kernel_rfl)(hr:(Region.ready md ops listed).contains i=true:=by kernel_rfl)(hQ:∀c a w,Q (.panic c) (a.put oi.dst undef) w->Q (.panic c) a w:=by exact fun _ _ _ h=>h):wpAny P md ops Q (fuel+1) listed a w:=wpAny_take hi hs hf hr hQ hy h
theorem uQ{R:World->Prop}(i:Nat)(v:Value)(hi:ops[i]?=some oi)(hS:S w)(hq:∀w',S w'->R w')(h:wpAnyH P md ops Q S fuel (listed.setIfInBounds i true) (a.put oi.dst v) w)(hy:YieldsIf P ops R oi v a:=by
  refine Or.inl ⟨by kernel_rfl,?_⟩
  first|(rintro w' ⟨q1,q2,q3⟩;go_simp)|(rintro w' ⟨q1,q2⟩;go_simp)) (hs:Region.noSelect ops=true:=by kernel_rfl) (hf:Region.free md ops listed i=true:=by kernel_rfl) (hr:(Region.ready md ops listed).contains i=true:=by kernel_rfl) (hQ:∀c a w,Q (.panic c) (a.put oi.dst v) w->Q (.panic c) a w:=by exact fun _ _ _ h=>h):wpAnyH P md ops Q S (fuel+1) listed a w:=wpAnyH_take hi hs hf hr hQ (hy.imp (fun h=>⟨h.1,fun w h2=>h.2 w (hq w h2)⟩) id) hS h
theorem aJ(h:p:=by omega):p:=h
theorem dD(h:p:=by kernel_rfl):p:=h
theorem bS(h:p:=by decide):p:=h
theorem eB(h:p:=by simp):p:=h
theorem rFL(h:p:=by rfl):p:=h
theorem oW(h:p:=by go_num):p:=h
theorem FE(h:p:=by simp[go_sem]):p:=h
theorem sOB(h:p:=by simp[Value.ownBlock]):p:=h
abbrev ah:=ByteArray
abbrev ak:=Go.World
abbrev ai:=@Nat.le_refl
abbrev aj:=@Go.cell_of_row
abbrev au:=@Go.heap_setCell_other
abbrev ax:=@Option.some.inj
abbrev ay:=@Go.RowKit.Below.refl
abbrev aA:=@if_neg
abbrev aB:=@Nat.lt_of_lt_of_le
abbrev aC:=@Nat.le_trans
abbrev aD:=@Go.frozen_of_row
abbrev aF:=@Go.World.cell?_of_block
abbrev aG:=@Go.block_lt_of_cell
abbrev aH:=@if_pos
abbrev aI:=@List.length_append
abbrev aK:=@Or.inl
abbrev aL:=@ByteArray.size_append
abbrev aM:=@ByteArray.size_extract
abbrev aN:=@List.getElem?_eq_some_iff
abbrev aO:=@And.intro
abbrev aP:=@Or.inr
abbrev aQ:=@List.mem_cons_self
abbrev aR:=@Go.heap_setCell_same
abbrev aS:=@Nat.zero_le
abbrev aU:=@List.mem_of_getElem?
abbrev aX:=@Array.length_toList
abbrev aY:=@List.length_cons
abbrev aZ:=@List.mem_cons_of_mem
abbrev bg:=@List.mem_cons
abbrev bA:=@Option.map_eq_some_iff
abbrev bD:=@List.mem_singleton
abbrev bK:=@List.take_of_length_le
abbrev bM:=@decide_eq_false
abbrev bO:=@Go.World.size_alloc
abbrev bQ:=@List.mem_append
abbrev bT:=@decide_eq_true
abbrev bU:=@Go.World.cell?_alloc_lt
abbrev bV:=@Go.bodyPost_ret
abbrev bW:=@List.getElem?_append_left
abbrev bX:=@Nat.lt_or_ge
abbrev bZ:=@List.size_toArray
abbrev cK:=@Go.wpList_store_mid
abbrev cZ:=@Array.getElem?_toList
abbrev dh:=@Nat.zero_add
abbrev dm:=@Option.getD_some
abbrev dw:=@Array.toArray_toList
abbrev dx:=@List.getD_eq_getElem?_getD
abbrev dz:=@List.getElem?_append_right
abbrev dG:=@Nat.le_of_eq
abbrev dH:=@List.not_mem_nil
abbrev dI:=@Go.World.size_setCell
abbrev dJ:=@Go.wp_region_held
abbrev dK:=@Go.World.ownsRow_nil
abbrev dN:=@ByteArray.append_assoc
abbrev dO:=@Go.RowKit.Hid.out
abbrev dS:=@List.getElem?_map
abbrev dU:=@List.take_add_one
abbrev dY:=@List.length_nil
abbrev eF:=@Go.World.rangeAt_setCells_same
abbrev eG:=@Go.ByteArray.toList_eq
abbrev eH:=@Go.all_oneCell_toArray
abbrev eX:=@Go.wpAnyH_done
abbrev eY:=@Go.results_none
abbrev eZ:=@List.append_assoc
abbrev fe:=@List.getElem?_eq_getElem
abbrev fq:=@Array.getElem?_eq_none
abbrev fu:=@Bool.false_ne_true
abbrev fA:=@Go.leaves_cons
abbrev fD:=@List.mem_append_left
abbrev fG:=@List.drop_eq_getElem_cons
abbrev fH:=@Nat.le_succ
abbrev fI:=@of_decide_eq_true
abbrev fJ:=@Array.toList_inj
abbrev fM:=@List.append_nil
abbrev fP:=@List.mem_map
abbrev fQ:=@Option.isSome_iff_exists
abbrev gu:=@Option.isSome_some
abbrev gD:=@List.length_pos_iff
abbrev gI:=@ByteArray.data_extract
abbrev gP:=@Go.IntKind.wrap_i64
abbrev gQ:=@Array.getElem?_eq_some_iff
abbrev gT:=@Go.wpList_load_row
abbrev gU:=@List.getElem?_eq_none
abbrev ic:=@List.length_take
abbrev ig:=@congrArg
abbrev iI:=@List.map_append
abbrev iJ:=@ByteArray.size_eq_zero_iff
abbrev iK:=@List.getElem?_cons_succ
abbrev iR:=@Nat.le_of_lt
abbrev iU:=@Option.isSome_none
abbrev jc:=@Nat.lt_succ_self
abbrev jk:=@List.take_succ_eq_append_getElem
abbrev jq:=@List.getElem?_cons_zero
abbrev jw:=@List.mem_filterMap
abbrev jA:=@List.foldl_cons
abbrev jG:=@Option.getD_none
abbrev jS:=@Go.results_tmp
abbrev jV:=@List.length_map
abbrev jX:=@Go.wp_region_any
abbrev kz:=@or_false
abbrev kC:=@ByteArray.extract_zero_size
abbrev kJ:=@Go.wpAnyH_take
abbrev kU:=@Array.all_eq_true_iff_forall_mem
abbrev kV:=@List.drop_of_length_le
abbrev kW:=@List.mem_range
abbrev kX:=@Nat.add_zero
abbrev kY:=@Nat.mod_lt
abbrev lg:=@decide_eq_true_eq
abbrev lC:=@List.flatMap_append
abbrev lD:=@beq_eq_false_iff_ne
abbrev lK:=@Nat.min_eq_left
abbrev lV:=@List.mem_append_right
abbrev lX:=@Option.toList_some
abbrev mJ:=@List.map_cons
abbrev mM:=@List.eq_nil_of_length_eq_zero
abbrev mO:=@List.pairwise_append
abbrev ng:=@List.flatMap_cons
abbrev nk:=@List.nodup_append
abbrev ny:=@Go.run_underlying
abbrev nC:=@List.nodup_cons
abbrev nD:=@Option.map_some
abbrev nY:=@Go.wpList_load_mid
abbrev oP:=@List.pairwise_cons
abbrev pJ:=@Go.u32_xor_nat
abbrev pK:=@List.length_filter_le
abbrev pO:=@Go.results_cell_row
abbrev pY:=@List.mem_of_find?_eq_some
abbrev qh:=@UInt8.toNat_inj
abbrev qm:=@Nat.sub_self
abbrev qo:=@Nat.zero_mul
abbrev qp:=@Go.World.cell?_setCell_other
abbrev qX:=@List.map_congr_left
abbrev rf:=@Bool.and_eq_true
abbrev rz:=@List.take_length
abbrev rC:=@Option.bind_eq_some_iff
abbrev rE:=@decide_eq_false_iff_not
abbrev su:=@Go.RowKit.Below.alloc
abbrev sD:=@List.getElem?_set_self
abbrev tu:=@Bool.eq_iff_iff
abbrev tQ:=@List.concat_eq_append
abbrev tV:=@List.eq_nil_or_concat
abbrev tX:=@List.length_singleton
abbrev uO:=@Array.getElem_setIfInBounds
abbrev uS:=@Array.mem_toList_iff
abbrev vQ:=@List.all_eq_true
abbrev vS:=@List.length_drop
abbrev wF:=@Array.getElem?_eq_getElem
abbrev wZ:=@List.length_filterMap_le
abbrev xD:=@List.nil_append
abbrev xP:=@List.filter_append
abbrev xQ:=@List.getElem?_take
abbrev yg:=@of_decide_eq_false
abbrev yw:=@List.filter_cons_of_neg
abbrev yx:=@List.filter_cons_of_pos
abbrev yA:=@ByteArray.extract_append_eq_right
abbrev yR:=@Go.wpAny_done
abbrev yX:=@Bool.eq_false_iff
abbrev yY:=@List.drop_eq_nil_of_le
abbrev yZ:=@List.foldl_append
abbrev zb:=@Go.World.frozen?_alloc_old
abbrev zA:=@Go.rounds_succ
abbrev Ab:=@ByteArray.data_append
abbrev Ad:=@Go.wpList_append_own
abbrev Ae:=@Go.wp_loop_rounds
abbrev Ah:=@Nat.le_add_right
abbrev Be:=@List.all_cons
abbrev Bn:=@List.getElem?_set_ne
abbrev Bv:=@Array.getElem?_setIfInBounds
abbrev Bz:=@List.dropLast_concat_getLast
abbrev BA:=@Nat.not_lt_zero
abbrev Cn:=@List.filterMap_cons
abbrev CV:=@List.map_nil
abbrev Dx:=@Array.toList_setIfInBounds
abbrev Dz:=@List.find?_eq_none
abbrev DC:=@List.nodup_nil
abbrev DF:=@List.take_zero
abbrev Ez:=@List.sublist_append_right
abbrev FK:=@Array.size_zipIdx
abbrev FM:=@List.ext_getElem?
abbrev FN:=@Array.size_setIfInBounds
abbrev FW:=@Nat.lt_irrefl
abbrev IJ:=@List.getElem?_replicate
abbrev IK:=@List.mem_flatMap
abbrev IQ:=@beq_self_eq_true
abbrev Ju:=@ByteArray.append_empty
abbrev JB:=@List.getElem_cons_succ
abbrev JC:=@List.getElem_cons_zero
abbrev Mv:=@List.all_append
abbrev Mw:=@List.length_set
abbrev Mx:=@List.mem_filter
abbrev MJ:=@List.filterMap_append
abbrev MN:=@List.set_append_right
abbrev MO:=@List.take_append_drop
abbrev NK:=@Go.Sem.run_bind
abbrev Pn:=@Array.toList_extract
abbrev Po:=@Bool.and_false
abbrev Pz:=@List.getElem_toArray
abbrev PD:=@List.mem_of_mem_take
abbrev PG:=@Nat.mul_one
abbrev RI:=@List.length_reverse
abbrev RN:=@Option.some_ne_none
abbrev Vd:=@Bool.or_false
abbrev Vj:=@Go.u32_and_nat
abbrev Vr:=@Nat.lt_of_le_of_lt
abbrev Vt:=@UInt8.toNat_ofNat'
abbrev XA:=@Go.Calls.quiet_of_same
abbrev XF:=@List.findIdx?_eq_some_iff_getElem
abbrev Yi:=@ByteArray.extract_append_eq_left
abbrev Yj:=@ByteArray.extract_append_extract
abbrev Yy:=@List.all_eq_false
abbrev Yz:=@Nat.add_comm
abbrev YA:=@Option.isSome_map
abbrev Zf:=@getElem?_pos
abbrev aaA:=@Array.eq_empty_of_size_eq_zero
abbrev aaV:=@List.any_eq_true
abbrev aaW:=@Nat.min_eq_right
abbrev aaX:=@Nat.mod_eq_of_lt
abbrev aaY:=@Option.bind_some
abbrev acE:=@List.take_append_of_le_length
abbrev acF:=@Nat.add_mul
abbrev acM:=@Go.run_storeCells_at
abbrev acO:=@Go.yieldsIf_load_mid
abbrev adj:=@List.sum_append
end
end Go.Proofs.YthhbpebihgjpjaaGreatDoor
namespace Go.Proofs.YthhbpebihgjpjaaGreatDoor.Sha
def rU(x n:Nat):Nat:=x*2 ^ (32-n) % 4294967296|||x/2 ^ n
def s0(x:Nat):Nat:=rU x 7 ^^^ rU x 18 ^^^ x/8
def s1(x:Nat):Nat:=rU x 17 ^^^ rU x 19 ^^^ x/1024
def S0(x:Nat):Nat:=rU x 2 ^^^ rU x 13 ^^^ rU x 22
def S1(x:Nat):Nat:=rU x 6 ^^^ rU x 11 ^^^ rU x 25
def ch(e f g:Nat):Nat:=(e&&&f) ^^^ ((4294967295-e)&&&g)
def maj(a b c:Nat):Nat:=(a&&&b) ^^^ (a&&&c) ^^^ (b&&&c)
theorem jU(x n:Nat)(hx:x<4294967296):rU x n<4294967296:=by
 have h1:x*2 ^ (32-n) % 4294967296<2 ^ 32:=kY _ bS;have h2:x/2 ^ n<2 ^ 32:=Vr (Nat.div_le_self _ _) hx;exact Nat.or_lt_two_pow h1 h2
variable {b:Nat}
theorem Bb{a:Nat}(ha:a<4294967296)(hb:b<4294967296):a ^^^ b<4294967296:=Nat.xor_lt_two_pow (n:=32) ha hb
theorem DN{a:Nat}(ha:a<4294967296):a&&&b<4294967296:=Vr Nat.and_le_left ha
theorem anF(x:Nat)(hx:x<4294967296):s0 x<4294967296:=Bb (Bb (jU _ _ hx) (jU _ _ hx)) aJ
theorem anG(x:Nat)(hx:x<4294967296):s1 x<4294967296:=Bb (Bb (jU _ _ hx) (jU _ _ hx)) aJ
theorem rW(x n:Nat)(hx:x<4294967296):bits .or .u32 (IntKind.u32.wrap ((x:Int)*2 ^ (32-n))) ((x:Int)/2 ^ n)=((rU x n:Nat):Int):=by
 have e1:IntKind.u32.wrap ((x:Int)*2 ^ (32-n))=((x*2 ^ (32-n) % 4294967296:Nat):Int):=by
  rw[IntKind.wrap_u32'];simp
 have e2:((x:Int)/2 ^ n)=((x/2 ^ n:Nat):Int):=eB
 rw[e1,e2,u32_or_nat _ _ (kY _ bS) (Vr (Nat.div_le_self _ _) hx)];rfl
theorem or4(a b c d:Nat)(ha:a<256)(hb:b<256)(hc:c<256)(hd:d<256):
  bits .or .u32 (bits .or .u32 (bits .or .u32 ((a:Int) % 4294967296*16777216 % 4294967296) ((b:Int) % 4294967296*65536 % 4294967296)) ((c:Int) % 4294967296*256 % 4294967296)) ((d:Int) % 4294967296)
   =((a*16777216+b*65536+c*256+d:Nat):Int):=by
 have e1:(a:Int) % 4294967296*16777216 % 4294967296=((a*16777216:Nat):Int):=aJ
 have e2:(b:Int) % 4294967296*65536 % 4294967296=((b*65536:Nat):Int):=aJ
 have e3:(c:Int) % 4294967296*256 % 4294967296=((c*256:Nat):Int):=aJ
 have e4:(d:Int) % 4294967296=(d:Int):=aJ
 rw[e1,e2,e3,e4,u32_or_nat _ _ aJ aJ,nat_join 24 _ _ aJ aJ,u32_or_nat _ _ aJ aJ,nat_join 16 _ _ aJ aJ,u32_or_nat _ _ aJ aJ,nat_join 8 _ _ aJ aJ]
theorem agq(x:Nat)(hx:x<4294967296):bits .xor .u32 (bits .xor .u32 ((rU x 7:Nat):Int) ((rU x 18:Nat):Int)) ((x:Int)/8)=((s0 x:Nat):Int):=by
 have e:((x:Int)/8)=((x/8:Nat):Int):=aJ
 rw[e,pJ _ _ (jU _ _ hx) (jU _ _ hx),pJ _ _ (Bb (jU _ _ hx) (jU _ _ hx)) aJ];rfl
theorem agr(x:Nat)(hx:x<4294967296):bits .xor .u32 (bits .xor .u32 ((rU x 17:Nat):Int) ((rU x 19:Nat):Int)) ((x:Int)/1024)=((s1 x:Nat):Int):=by
 have e:((x:Int)/1024)=((x/1024:Nat):Int):=aJ
 rw[e,pJ _ _ (jU _ _ hx) (jU _ _ hx),pJ _ _ (Bb (jU _ _ hx) (jU _ _ hx)) aJ];rfl
theorem abr(a b c d:Nat):((((a:Int)+(b:Int)) % 4294967296+(c:Int)) % 4294967296+(d:Int)) % 4294967296=(((a+b+c+d) % 4294967296:Nat):Int):=aJ
structure St where
 a:Nat
 b:Nat
 c:Nat
 d:Nat
 e:Nat
 f:Nat
 g:Nat
 h:Nat
structure St.Ok(s:St):Prop where
 a:s.a<4294967296
 b:s.b<4294967296
 c:s.c<4294967296
 d:s.d<4294967296
 e:s.e<4294967296
 f:s.f<4294967296
 g:s.g<4294967296
 h:s.h<4294967296
def round(k w:Nat)(s:St):St:=
 {a:=(s.h+S1 s.e+ch s.e s.f s.g+k+w+(S0 s.a+maj s.a s.b s.c)) % 4294967296,b:=s.a,c:=s.b,d:=s.c,
  e:=(s.d+(s.h+S1 s.e+ch s.e s.f s.g+k+w)) % 4294967296,f:=s.e,g:=s.f,h:=s.g}
theorem ab5(k w:Nat)(s:St)(h:s.Ok):(round k w s).Ok:=
 ⟨kY _ bS,h.a,h.b,h.c,kY _ bS,h.e,h.f,h.g⟩
theorem afE(x:Nat)(hx:x<4294967296):bits .xor .u32 (bits .xor .u32 ((rU x 6:Nat):Int) ((rU x 11:Nat):Int)) ((rU x 25:Nat):Int)=((S1 x:Nat):Int):=by
 rw[pJ _ _ (jU _ _ hx) (jU _ _ hx),pJ _ _ (Bb (jU _ _ hx) (jU _ _ hx)) (jU _ _ hx)];rfl
theorem afD(x:Nat)(hx:x<4294967296):bits .xor .u32 (bits .xor .u32 ((rU x 2:Nat):Int) ((rU x 13:Nat):Int)) ((rU x 22:Nat):Int)=((S0 x:Nat):Int):=by
 rw[pJ _ _ (jU _ _ hx) (jU _ _ hx),pJ _ _ (Bb (jU _ _ hx) (jU _ _ hx)) (jU _ _ hx)];rfl
theorem ad3(e:Nat)(he:e<4294967296):4294967295 ^^^ e=4294967295-e:=by
 apply Nat.eq_of_testBit_eq;intro i;have h1:(4294967295:Nat)=2 ^ 32-1:=rfl
 have h2:4294967295-e=2 ^ 32-(e+1):=aJ
 rw[Nat.testBit_xor,h2,Nat.testBit_two_pow_sub_succ he,h1,Nat.testBit_two_pow_sub_one]
 by_cases hi:i<32
 ·simp[hi]
 have:e.testBit i=false:=Nat.testBit_lt_two_pow (aB he (by show 2 ^ 32<=2 ^ i;exact Nat.pow_le_pow_right bS aJ))
 simp[hi,this]
theorem adZ:IntKind.u32.max=((4294967295:Nat):Int):=bS
theorem afJ(e f g:Nat)(he:e<4294967296)(hf:f<4294967296)(hg:g<4294967296):bits .xor .u32 (bits .and .u32 (e:Int) (f:Int)) (bits .and .u32 (bits .xor .u32 IntKind.u32.max (e:Int)) (g:Int))=((ch e f g:Nat):Int):=by
 rw[adZ,pJ _ _ bS he,ad3 e he,Vj _ _ he hf,Vj _ _ aJ hg,pJ _ _ (DN he) (DN aJ)];rfl
theorem adY(a b c:Nat)(ha:a<4294967296)(hb:b<4294967296)(hc:c<4294967296):bits .xor .u32 (bits .xor .u32 (bits .and .u32 (a:Int) (b:Int)) (bits .and .u32 (a:Int) (c:Int))) (bits .and .u32 (b:Int) (c:Int))=((maj a b c:Nat):Int):=by
 rw[Vj _ _ ha hb,Vj _ _ ha hc,Vj _ _ hb hc,pJ _ _ (DN ha) (DN ha),pJ _ _ (Bb (DN ha) (DN ha)) (DN hb)];rfl
theorem aec(k w:Nat)(s:St):(((s.h:Int)+(S1 s.e:Nat)+(ch s.e s.f s.g:Nat)+(k:Int)+(w:Int)+(S0 s.a:Nat)) % 4294967296+(maj s.a s.b s.c:Nat)) % 4294967296=(((round k w s).a:Nat):Int):=by
 show _=(((s.h+S1 s.e+ch s.e s.f s.g+k+w+(S0 s.a+maj s.a s.b s.c)) % 4294967296:Nat):Int);omega
theorem aed(k w:Nat)(s:St):((s.d:Int)+((s.h:Int)+(S1 s.e:Nat)+(ch s.e s.f s.g:Nat)+(k:Int)+(w:Int)) % 4294967296) % 4294967296=(((round k w s).e:Nat):Int):=by
 show _=(((s.d+(s.h+S1 s.e+ch s.e s.f s.g+k+w)) % 4294967296:Nat):Int);omega
def after(K W:Nat->Nat)(s:St):Nat->St
 |0=>s
 |n+1=>round (K n) (W n) (after K W s n)
theorem RP(K W:Nat->Nat)(s:St)(h:s.Ok):∀n,(after K W s n).Ok
 |0=>h
 |n+1=>ab5 _ _ _ (RP K W s h n)
def join(s t:St):St:=⟨(s.a+t.a) % 4294967296,(s.b+t.b) % 4294967296,(s.c+t.c) % 4294967296,(s.d+t.d) % 4294967296,(s.e+t.e) % 4294967296,(s.f+t.f) % 4294967296,(s.g+t.g) % 4294967296,(s.h+t.h) % 4294967296⟩
theorem adU(s t:St):(join s t).Ok:=⟨kY _ bS,kY _ bS,kY _ bS,kY _ bS,kY _ bS,kY _ bS,kY _ bS,kY _ bS⟩
def next(b:Nat->Nat)(l:Nat->Nat)(n:Nat):Nat:=
 if n<16 then b (4*n)*16777216+b (4*n+1)*65536+b (4*n+2)*256+b (4*n+3)
 else (l (n-16)+s0 (l (n-15))+l (n-7)+s1 (l (n-2))) % 4294967296
def upTo(b:Nat->Nat):Nat->Nat->Nat
 |0,_=>0
 |n+1,i=>if i=n then next b (upTo b n) n else upTo b n i
def word(b:Nat->Nat)(i:Nat):Nat:=upTo b (i+1) i
theorem zY(b:Nat->Nat):∀(n i:Nat),i<n->upTo b n i=word b i:=by
 intro n
 induction n with
 |zero=>intro i h;omega
 |succ n ih=>
  intro i h
  by_cases e:i=n
  ·subst e;rfl
  show(if i=n then _ else upTo b n i)=_;rw[aA e];exact ih i aJ
theorem UY(b:Nat->Nat)(n:Nat)(h:n<16):word b n=b (4*n)*16777216+b (4*n+1)*65536+b (4*n+2)*256+b (4*n+3):=by
 show(if n=n then next b (upTo b n) n else _)=_;rw[aH rfl];unfold next;rw[aH h]
theorem Pj(b:Nat->Nat)(n:Nat)(h:16<=n):word b n=(word b (n-16)+s0 (word b (n-15))+word b (n-7)+s1 (word b (n-2))) % 4294967296:=by
 show(if n=n then next b (upTo b n) n else _)=_;rw[aH rfl];unfold next;rw[aA aJ,zY b n _ aJ,zY b n _ aJ,zY b n _ aJ,zY b n _ aJ]
theorem word_lt(b:Nat->Nat)(hb:∀i,b i<256)(n:Nat):word b n<4294967296:=by
 by_cases h:n<16
 ·rw[UY b n h];have h0:=hb (4*n);have h1:=hb (4*n+1);have h2:=hb (4*n+2);have h3:=hb (4*n+3);omega
 rw[Pj b n aJ];exact kY _ bS
def mixed(K:Nat->Nat)(s:St)(b:Nat->Nat):St:=join s (after K (word b) s 64)
theorem KR(K:Nat->Nat)(s:St)(b:Nat->Nat):(mixed K s b).Ok:=adU _ _
end Go.Proofs.YthhbpebihgjpjaaGreatDoor.Sha
namespace Go.Proofs.YthhbpebihgjpjaaGreatDoor
end Go.Proofs.YthhbpebihgjpjaaGreatDoor
