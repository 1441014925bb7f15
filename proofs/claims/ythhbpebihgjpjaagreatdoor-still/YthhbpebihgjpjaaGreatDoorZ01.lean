import Derived.Deep.QuietTactic
import Derived.Laws.BitsAllLaws
import Derived.Laws.Strings
import Derived.LoopN
import Derived.Deep.RegionHeld
import Derived.Below
import Derived.IntWalk
namespace Go.Proofs.YthhbpebihgjpjaaGreatDoor
set_option maxHeartbeats 20000000
set_option linter.all false
section
open Go.RowKit
theorem aP{p:Prop}(h:p):Hid p:=h
theorem kI{α β γ:Type}{R:α->β->γ->Prop}:∀a b c,R a b c->R a b c:=fun _ _ _ h=>h
theorem yw{a b c d:Bool}(h:(a&&b&&c&&d)=true):a=true/\b=true/\c=true/\d=true:=by
  cases a<;>cases b<;>cases c<;>cases d<;>first|exact⟨rfl,rfl,rfl,rfl⟩|cases h
variable {P:Program}{ops:Array Oper}{Q:Exit->Act->World->Prop}{md:Region.Mode}{S:World->Prop}{oi:Oper}{fuel:Nat}{listed:Array Bool}{a:Act}{w:World}
theorem tH(i:Nat)(v:Value)(hi:ops[i]?=some oi)(hc:(Region.noSelect ops&&Region.free md ops listed i&&(Region.ready md ops listed).contains i&&true)=true)(hS:S w)(hy:YieldsIf P ops S oi v a)(hQ:∀c a w,Q (.panic c) (a.put oi.dst v) w->Q (.panic c) a w)(h:wpAnyH P md ops Q S fuel (listed.setIfInBounds i true) (a.put oi.dst v) w):wpAnyH P md ops Q S (fuel+1) listed a w:=wpAnyH_take hi (yw hc).1 (yw hc).2.1 (yw hc).2.2.1 hQ hy hS h
theorem tA(i:Nat)(v:Value)(hi:ops[i]?=some oi)(hc:(Region.noSelect ops&&Region.free md ops listed i&&(Region.ready md ops listed).contains i&&true)=true)(hy:Yields P ops oi v a)(hQ:∀c a w,Q (.panic c) (a.put oi.dst v) w->Q (.panic c) a w)(h:wpAny P md ops Q fuel (listed.setIfInBounds i true) (a.put oi.dst v) w):wpAny P md ops Q (fuel+1) listed a w:=wpAny_take hi (yw hc).1 (yw hc).2.1 (yw hc).2.2.1 hQ hy h
theorem u3(i:Nat)(v:Value)(hi:ops[i]?=some oi)(hS:S w)(hy:(Region.noSelect ops&&Region.free md ops listed i&&(Region.ready md ops listed).contains i&&Region.wanted oi (yielded ops a.tmps))=true/\(∀c a w,Q (.panic c) (a.put oi.dst v) w->Q (.panic c) a w)/\∀w,S w->(execOp a.eval oi).run P w=.ok (.value v) w)(h:wpAnyH P md ops Q S fuel (listed.setIfInBounds i true) (a.put oi.dst v) w):wpAnyH P md ops Q S (fuel+1) listed a w:=wpAnyH_take hi (yw hy.1).1 (yw hy.1).2.1 (yw hy.1).2.2.1 hy.2.1 (Or.inl ⟨(yw hy.1).2.2.2,hy.2.2⟩) hS h
theorem uQ{R:World->Prop}(i:Nat)(v:Value)(hi:ops[i]?=some oi)(hS:S w)(hq:∀w',S w'->R w')(hy:(Region.noSelect ops&&Region.free md ops listed i&&(Region.ready md ops listed).contains i&&Region.wanted oi (yielded ops a.tmps))=true/\(∀c a w,Q (.panic c) (a.put oi.dst v) w->Q (.panic c) a w)/\∀w,R w->(execOp a.eval oi).run P w=.ok (.value v) w)(h:wpAnyH P md ops Q S fuel (listed.setIfInBounds i true) (a.put oi.dst v) w):wpAnyH P md ops Q S (fuel+1) listed a w:=u3 i v hi hS ⟨hy.1,hy.2.1,fun w h=>hy.2.2 w (hq w h)⟩ h
theorem uA(i:Nat)(v:Value)(hi:ops[i]?=some oi)(hy:(Region.noSelect ops&&Region.free md ops listed i&&(Region.ready md ops listed).contains i&&Region.wanted oi (yielded ops a.tmps))=true/\(∀c a w,Q (.panic c) (a.put oi.dst v) w->Q (.panic c) a w)/\∀w,(execOp a.eval oi).run P w=.ok (.value v) w)(h:wpAny P md ops Q fuel (listed.setIfInBounds i true) (a.put oi.dst v) w):wpAny P md ops Q (fuel+1) listed a w:=wpAny_take hi (yw hy.1).1 (yw hy.1).2.1 (yw hy.1).2.2.1 hy.2.1 (Or.inl ⟨(yw hy.1).2.2.2,hy.2.2⟩) h
theorem sH(i:Nat)(hi:ops[i]?=some oi)(hS:S w)(hc:(Region.noSelect ops&&Region.free md ops listed i&&(Region.ready md ops listed).contains i&&!Region.wanted oi (yielded ops a.tmps))=true)(hQ:∀c a w,Q (.panic c) (a.put oi.dst undef) w->Q (.panic c) a w)(h:wpAnyH P md ops Q S fuel (listed.setIfInBounds i true) (a.put oi.dst undef) w):wpAnyH P md ops Q S (fuel+1) listed a w:=wpAnyH_take hi (yw hc).1 (yw hc).2.1 (yw hc).2.2.1 hQ (Or.inr ⟨by have:=(yw hc).2.2.2;simpa using this,rfl⟩) hS h
theorem sA(i:Nat)(hi:ops[i]?=some oi)(hc:(Region.noSelect ops&&Region.free md ops listed i&&(Region.ready md ops listed).contains i&&!Region.wanted oi (yielded ops a.tmps))=true)(hQ:∀c a w,Q (.panic c) (a.put oi.dst undef) w->Q (.panic c) a w)(h:wpAny P md ops Q fuel (listed.setIfInBounds i true) (a.put oi.dst undef) w):wpAny P md ops Q (fuel+1) listed a w:=wpAny_take hi (yw hc).1 (yw hc).2.1 (yw hc).2.2.1 hQ (Or.inr ⟨by have:=(yw hc).2.2.2;simpa using this,rfl⟩) h
variable {o:Oper}
theorem rH(i:Nat)(ho:ops[i]?=some o)(hr:Region.ready md ops listed=[i])(h:∀K':Act->World->Prop,Shut (∀a w,S w->(S w->wpAnyH P md ops Q S fuel (listed.setIfInBounds i true) a w)->K' a w)->if Region.wanted o (yielded ops a.tmps)=true then Oper.wp P o a w K' Q else K' (a.put o.dst undef) w):wpAnyH P md ops Q S (fuel+1) listed a w:=wpAnyH_ready hr (by simp) (AllReadyH.cons ho h AllReadyH.nil)
theorem rA(i:Nat)(ho:ops[i]?=some o)(hr:Region.ready md ops listed=[i])(h:∀K':Act->World->Prop,(∀a w,wpAny P md ops Q fuel (listed.setIfInBounds i true) a w->K' a w)->if Region.wanted o (yielded ops a.tmps)=true then Oper.wp P o a w K' Q else K' (a.put o.dst undef) w):wpAny P md ops Q (fuel+1) listed a w:=wpAny_ready hr (by simp) (AllReady.cons ho h AllReady.nil)
variable {o':Oper}
theorem pA(i j:Nat)(ho:ops[i]?=some o)(ho':ops[j]?=some o')(hr:Region.ready md ops listed=[i,j])(h:∀K':Act->World->Prop,(∀a w,wpAny P md ops Q fuel (listed.setIfInBounds i true) a w->K' a w)->if Region.wanted o (yielded ops a.tmps)=true then Oper.wp P o a w K' Q else K' (a.put o.dst undef) w)(h':∀K':Act->World->Prop,(∀a w,wpAny P md ops Q fuel (listed.setIfInBounds j true) a w->K' a w)->if Region.wanted o' (yielded ops a.tmps)=true then Oper.wp P o' a w K' Q else K' (a.put o'.dst undef) w):wpAny P md ops Q (fuel+1) listed a w:=wpAny_ready hr (by simp) (AllReady.cons ho h (AllReady.cons ho' h' AllReady.nil))
theorem pH(i j:Nat)(ho:ops[i]?=some o)(ho':ops[j]?=some o')(hr:Region.ready md ops listed=[i,j])(h:∀K':Act->World->Prop,Shut (∀a w,S w->(S w->wpAnyH P md ops Q S fuel (listed.setIfInBounds i true) a w)->K' a w)->if Region.wanted o (yielded ops a.tmps)=true then Oper.wp P o a w K' Q else K' (a.put o.dst undef) w)(h':∀K':Act->World->Prop,Shut (∀a w,S w->(S w->wpAnyH P md ops Q S fuel (listed.setIfInBounds j true) a w)->K' a w)->if Region.wanted o' (yielded ops a.tmps)=true then Oper.wp P o' a w K' Q else K' (a.put o'.dst undef) w):wpAnyH P md ops Q S (fuel+1) listed a w:=wpAnyH_ready hr (by simp) (AllReadyH.cons ho h (AllReadyH.cons ho' h' AllReadyH.nil))
variable {g j:Nat}{cs:Array Value}{t:TypeId}
theorem bZ{fr:Nat×Nat}(hg:w.heap[g]?=some (.cells cs t fr)):w.cell? ⟨g,j,none⟩=cs[j]?:=cell_of_row w g j cs t fr hg
theorem iG(hg:w.heap[g]?=some (.cells cs t (0,0))):w.frozen? ⟨g,j,none⟩=false:=frozen_of_row w g j cs t hg
variable {v:Value}
theorem iP{a:Addr}{k:Nat}(h:k≠a.block):(w.setCell a v).heap[k]?=w.heap[k]?:=heap_setCell_other w a k v h
theorem xY{i:Nat}(hg:w.heap[g]?=some (.cells cs t (0,0))):(w.setCell ⟨g,i,none⟩ v).heap[g]?=some (.cells (cs.setIfInBounds i v) t (0,0)):=heap_setCell_same w g i cs t v hg
variable {b:Nat}
theorem iT{e n:Nat}{z:Value}(h:(P.info? e).map (fun i=>(i.size,i.bytes,i.zero))=some (n,b,some z)):∃ti,Hid (P.info? e=some ti/\ti.size=n/\ti.bytes=b/\ti.zero=some z):=by
  obtain⟨ti,hti,htj⟩:=Option.map_eq_some_iff.1 h;simp only[Prod.mk.injEq] at htj;exact⟨ti,hti,htj.1,htj.2.1,htj.2.2⟩
abbrev ah:=ByteArray
abbrev aj:=Go.World
abbrev ai:=@Nat.le_refl
abbrev ak:=@Option.some.inj
abbrev au:=@Go.RowKit.Below.refl
abbrev ax:=@if_neg
abbrev ay:=@Nat.lt_of_lt_of_le
abbrev aA:=@Nat.le_trans
abbrev aB:=@Go.World.cell?_of_block
abbrev aC:=@Go.block_lt_of_cell
abbrev aD:=@if_pos
abbrev aF:=@List.length_append
abbrev aG:=@Or.inl
abbrev aH:=@ByteArray.size_append
abbrev aI:=@ByteArray.size_extract
abbrev aJ:=@List.getElem?_eq_some_iff
abbrev aK:=@And.intro
abbrev aL:=@Or.inr
abbrev aM:=@List.mem_cons_self
abbrev aN:=@Nat.zero_le
abbrev aO:=@List.mem_of_getElem?
abbrev aR:=@Array.length_toList
abbrev aS:=@List.length_cons
abbrev aU:=@List.mem_cons_of_mem
abbrev aV:=@List.mem_cons
abbrev aX:=@Option.map_eq_some_iff
abbrev bg:=@List.mem_singleton
abbrev bF:=@List.take_of_length_le
abbrev bH:=@decide_eq_false
abbrev bJ:=@Go.World.size_alloc
abbrev bK:=@List.mem_append
abbrev bN:=@decide_eq_true
abbrev bO:=@Go.World.cell?_alloc_lt
abbrev bP:=@Go.bodyPost_ret
abbrev bQ:=@List.getElem?_append_left
abbrev bR:=@Nat.lt_or_ge
abbrev bT:=@List.size_toArray
abbrev bU:=@Go.wpList_store_mid
abbrev bV:=@Array.getElem?_toList
abbrev bW:=@Nat.zero_add
abbrev bY:=@Option.getD_some
abbrev cK:=@Array.toArray_toList
abbrev cZ:=@List.getD_eq_getElem?_getD
abbrev dh:=@List.getElem?_append_right
abbrev dx:=@Nat.le_of_eq
abbrev dz:=@List.not_mem_nil
abbrev dA:=@Go.World.size_setCell
abbrev dB:=@Go.wp_region_held
abbrev dD:=@Go.World.ownsRow_nil
abbrev dH:=@ByteArray.append_assoc
abbrev dI:=@Go.RowKit.Hid.out
abbrev dM:=@List.getElem?_map
abbrev dN:=@List.take_add_one
abbrev dR:=@List.length_nil
abbrev dW:=@Go.World.rangeAt_setCells_same
abbrev dX:=@Go.ByteArray.toList_eq
abbrev dY:=@Go.all_oneCell_toArray
abbrev eF:=@Go.wpAnyH_done
abbrev eG:=@Go.results_none
abbrev eH:=@List.append_assoc
abbrev eO:=@Go.heap_setCell_same
abbrev eP:=@List.getElem?_eq_getElem
abbrev eU:=@Array.getElem?_eq_none
abbrev eX:=@Bool.false_ne_true
abbrev eY:=@Go.leaves_cons
abbrev fq:=@List.mem_append_left
abbrev fA:=@List.drop_eq_getElem_cons
abbrev fB:=@Nat.le_succ
abbrev fC:=@of_decide_eq_true
abbrev fD:=@Array.toList_inj
abbrev fF:=@List.append_nil
abbrev fH:=@List.mem_map
abbrev fI:=@Option.isSome_iff_exists
abbrev fT:=@Option.isSome_some
abbrev fZ:=@List.length_pos_iff
abbrev gq:=@ByteArray.data_extract
abbrev gH:=@Go.IntKind.wrap_i64
abbrev gI:=@Array.getElem?_eq_some_iff
abbrev gJ:=@Go.wpList_load_row
abbrev gK:=@List.getElem?_eq_none
abbrev gV:=@List.length_take
abbrev gW:=@congrArg
abbrev iC:=@List.map_append
abbrev iD:=@ByteArray.size_eq_zero_iff
abbrev iE:=@List.getElem?_cons_succ
abbrev iM:=@Nat.le_of_lt
abbrev iN:=@Option.isSome_none
abbrev iX:=@Nat.lt_succ_self
abbrev jf:=@List.take_succ_eq_append_getElem
abbrev jk:=@List.getElem?_cons_zero
abbrev jo:=@List.mem_filterMap
abbrev jr:=@List.foldl_cons
abbrev jC:=@Option.getD_none
abbrev jO:=@Go.results_tmp
abbrev jR:=@List.length_map
abbrev jT:=@Go.wp_region_any
abbrev ko:=@or_false
abbrev kr:=@ByteArray.extract_zero_size
abbrev kQ:=@Array.all_eq_true_iff_forall_mem
abbrev kR:=@List.drop_of_length_le
abbrev kS:=@List.mem_range
abbrev kT:=@Nat.add_zero
abbrev kU:=@Nat.mod_lt
abbrev kW:=@decide_eq_true_eq
abbrev kZ:=@List.flatMap_append
abbrev lg:=@beq_eq_false_iff_ne
abbrev lG:=@Nat.min_eq_left
abbrev lQ:=@List.mem_append_right
abbrev lT:=@Option.toList_some
abbrev mD:=@List.map_cons
abbrev mF:=@List.eq_nil_of_length_eq_zero
abbrev mG:=@List.pairwise_append
abbrev mW:=@List.flatMap_cons
abbrev mX:=@List.nodup_append
abbrev mZ:=@Go.run_underlying
abbrev ng:=@Go.wpAnyH_take
abbrev nk:=@List.nodup_cons
abbrev nu:=@Option.map_some
abbrev nX:=@Go.wpList_load_mid
abbrev oO:=@List.pairwise_cons
abbrev pF:=@Go.u32_xor_nat
abbrev pG:=@List.length_filter_le
abbrev pI:=@Go.results_cell_row
abbrev pV:=@List.mem_of_find?_eq_some
abbrev qc:=@UInt8.toNat_inj
abbrev qj:=@Nat.sub_self
abbrev ql:=@Nat.zero_mul
abbrev qm:=@Go.World.cell?_setCell_other
abbrev qR:=@List.map_congr_left
abbrev qW:=@Bool.and_eq_true
abbrev qZ:=@List.all_eq_true
abbrev rf:=@List.take_length
abbrev rq:=@Option.bind_eq_some_iff
abbrev rz:=@decide_eq_false_iff_not
abbrev rY:=@Go.RowKit.Below.alloc
abbrev sj:=@List.getElem?_set_self
abbrev sW:=@Bool.eq_iff_iff
abbrev tK:=@List.concat_eq_append
abbrev tL:=@List.eq_nil_or_concat
abbrev tN:=@List.length_singleton
abbrev uL:=@Array.getElem_setIfInBounds
abbrev uP:=@Array.mem_toList_iff
abbrev vM:=@List.length_drop
abbrev wB:=@Array.getElem?_eq_getElem
abbrev wW:=@List.length_filterMap_le
abbrev xw:=@List.nil_append
abbrev xK:=@List.filter_append
abbrev xL:=@List.getElem?_take
abbrev xX:=@of_decide_eq_false
abbrev yj:=@List.filter_cons_of_neg
abbrev yo:=@List.filter_cons_of_pos
abbrev yu:=@ByteArray.extract_append_eq_right
abbrev yP:=@Go.wpAny_done
abbrev yU:=@Bool.eq_false_iff
abbrev yV:=@List.drop_eq_nil_of_le
abbrev yX:=@List.foldl_append
abbrev yZ:=@Go.World.frozen?_alloc_old
abbrev zx:=@Go.rounds_succ
abbrev zZ:=@ByteArray.data_append
abbrev Ab:=@Go.wpList_append_own
abbrev Ac:=@Go.wp_loop_rounds
abbrev Af:=@Nat.le_add_right
abbrev Bc:=@List.all_cons
abbrev Bj:=@List.getElem?_set_ne
abbrev Bt:=@Array.getElem?_setIfInBounds
abbrev Bv:=@List.dropLast_concat_getLast
abbrev Bw:=@Nat.not_lt_zero
abbrev Ck:=@List.filterMap_cons
abbrev CR:=@List.map_nil
abbrev Dw:=@Array.toList_setIfInBounds
abbrev Dy:=@List.find?_eq_none
abbrev Dz:=@List.nodup_nil
abbrev DC:=@List.take_zero
abbrev Ey:=@List.sublist_append_right
abbrev FH:=@Array.size_zipIdx
abbrev FI:=@List.ext_getElem?
abbrev FK:=@Array.size_setIfInBounds
abbrev FU:=@Nat.lt_irrefl
abbrev II:=@List.getElem?_replicate
abbrev IJ:=@List.mem_flatMap
abbrev IK:=@beq_self_eq_true
abbrev Js:=@ByteArray.append_empty
abbrev Jz:=@List.getElem_cons_succ
abbrev JA:=@List.getElem_cons_zero
abbrev Mv:=@List.all_append
abbrev Mw:=@List.length_set
abbrev Mx:=@List.mem_filter
abbrev MN:=@List.filterMap_append
abbrev MO:=@List.set_append_right
abbrev MP:=@List.take_append_drop
abbrev NH:=@Go.Sem.run_bind
abbrev Pk:=@Array.toList_extract
abbrev Pm:=@Bool.and_false
abbrev Px:=@List.getElem_toArray
abbrev Py:=@List.mem_of_mem_take
abbrev Pz:=@Nat.mul_one
abbrev RF:=@List.length_reverse
abbrev RH:=@Option.some_ne_none
abbrev Va:=@Bool.or_false
abbrev Vh:=@Go.u32_and_nat
abbrev Vq:=@Nat.lt_of_le_of_lt
abbrev Vs:=@UInt8.toNat_ofNat'
abbrev Xz:=@Go.Calls.quiet_of_same
abbrev XE:=@List.findIdx?_eq_some_iff_getElem
abbrev Yh:=@ByteArray.extract_append_eq_left
abbrev Yi:=@ByteArray.extract_append_extract
abbrev Yx:=@List.all_eq_false
abbrev Yy:=@Nat.add_comm
abbrev Yz:=@Option.isSome_map
abbrev Ze:=@getElem?_pos
abbrev aaz:=@Array.eq_empty_of_size_eq_zero
abbrev aaT:=@List.any_eq_true
abbrev aaU:=@Nat.min_eq_right
abbrev aaV:=@Nat.mod_eq_of_lt
abbrev aaW:=@Option.bind_some
abbrev acD:=@List.take_append_of_le_length
abbrev acE:=@Nat.add_mul
abbrev acK:=@Go.run_storeCells_at
abbrev acL:=@Go.yieldsIf_load_mid
abbrev adg:=@List.sum_append
end
end Go.Proofs.YthhbpebihgjpjaaGreatDoor
namespace Go.Proofs.YthhbpebihgjpjaaGreatDoor.Sha
def rQ(x n:Nat):Nat:=x*2 ^ (32-n) % 4294967296|||x/2 ^ n
def s0(x:Nat):Nat:=rQ x 7 ^^^ rQ x 18 ^^^ x/8
def s1(x:Nat):Nat:=rQ x 17 ^^^ rQ x 19 ^^^ x/1024
def S0(x:Nat):Nat:=rQ x 2 ^^^ rQ x 13 ^^^ rQ x 22
def S1(x:Nat):Nat:=rQ x 6 ^^^ rQ x 11 ^^^ rQ x 25
def ch(e f g:Nat):Nat:=(e&&&f) ^^^ ((4294967295-e)&&&g)
def maj(a b c:Nat):Nat:=(a&&&b) ^^^ (a&&&c) ^^^ (b&&&c)
theorem jQ(x n:Nat)(hx:x<4294967296):rQ x n<4294967296:=by
 have h1:x*2 ^ (32-n) % 4294967296<2 ^ 32:=kU _ (by decide);have h2:x/2 ^ n<2 ^ 32:=Vq (Nat.div_le_self _ _) hx;exact Nat.or_lt_two_pow h1 h2
variable {b:Nat}
theorem AZ{a:Nat}(ha:a<4294967296)(hb:b<4294967296):a ^^^ b<4294967296:=Nat.xor_lt_two_pow (n:=32) ha hb
theorem DK{a:Nat}(ha:a<4294967296):a&&&b<4294967296:=Vq Nat.and_le_left ha
theorem anF(x:Nat)(hx:x<4294967296):s0 x<4294967296:=AZ (AZ (jQ _ _ hx) (jQ _ _ hx)) (by omega)
theorem anG(x:Nat)(hx:x<4294967296):s1 x<4294967296:=AZ (AZ (jQ _ _ hx) (jQ _ _ hx)) (by omega)
theorem rT(x n:Nat)(hx:x<4294967296):bits .or .u32 (IntKind.u32.wrap ((x:Int)*2 ^ (32-n))) ((x:Int)/2 ^ n)=((rQ x n:Nat):Int):=by
 have e1:IntKind.u32.wrap ((x:Int)*2 ^ (32-n))=((x*2 ^ (32-n) % 4294967296:Nat):Int):=by
  rw[IntKind.wrap_u32'];simp
 have e2:((x:Int)/2 ^ n)=((x/2 ^ n:Nat):Int):=by simp
 rw[e1,e2,u32_or_nat _ _ (kU _ (by decide)) (Vq (Nat.div_le_self _ _) hx)];rfl
theorem or4(a b c d:Nat)(ha:a<256)(hb:b<256)(hc:c<256)(hd:d<256):
  bits .or .u32 (bits .or .u32 (bits .or .u32 ((a:Int) % 4294967296*16777216 % 4294967296) ((b:Int) % 4294967296*65536 % 4294967296)) ((c:Int) % 4294967296*256 % 4294967296)) ((d:Int) % 4294967296)
   =((a*16777216+b*65536+c*256+d:Nat):Int):=by
 have e1:(a:Int) % 4294967296*16777216 % 4294967296=((a*16777216:Nat):Int):=by omega
 have e2:(b:Int) % 4294967296*65536 % 4294967296=((b*65536:Nat):Int):=by omega
 have e3:(c:Int) % 4294967296*256 % 4294967296=((c*256:Nat):Int):=by omega
 have e4:(d:Int) % 4294967296=(d:Int):=by omega
 rw[e1,e2,e3,e4,u32_or_nat _ _ (by omega) (by omega),nat_join 24 _ _ (by omega) (by omega),u32_or_nat _ _ (by omega) (by omega),nat_join 16 _ _ (by omega) (by omega),u32_or_nat _ _ (by omega) (by omega),nat_join 8 _ _ (by omega) (by omega)]
theorem agl(x:Nat)(hx:x<4294967296):bits .xor .u32 (bits .xor .u32 ((rQ x 7:Nat):Int) ((rQ x 18:Nat):Int)) ((x:Int)/8)=((s0 x:Nat):Int):=by
 have e:((x:Int)/8)=((x/8:Nat):Int):=by omega
 rw[e,pF _ _ (jQ _ _ hx) (jQ _ _ hx),pF _ _ (AZ (jQ _ _ hx) (jQ _ _ hx)) (by omega)];rfl
theorem agm(x:Nat)(hx:x<4294967296):bits .xor .u32 (bits .xor .u32 ((rQ x 17:Nat):Int) ((rQ x 19:Nat):Int)) ((x:Int)/1024)=((s1 x:Nat):Int):=by
 have e:((x:Int)/1024)=((x/1024:Nat):Int):=by omega
 rw[e,pF _ _ (jQ _ _ hx) (jQ _ _ hx),pF _ _ (AZ (jQ _ _ hx) (jQ _ _ hx)) (by omega)];rfl
theorem abp(a b c d:Nat):((((a:Int)+(b:Int)) % 4294967296+(c:Int)) % 4294967296+(d:Int)) % 4294967296=(((a+b+c+d) % 4294967296:Nat):Int):=by omega
structure St where
 a:Nat
 b:Nat
 c:Nat
 d:Nat
 e:Nat
 f:Nat
 g:Nat
 h:Nat
structure St.Ok(s:St):Prop where
 a:s.a<4294967296
 b:s.b<4294967296
 c:s.c<4294967296
 d:s.d<4294967296
 e:s.e<4294967296
 f:s.f<4294967296
 g:s.g<4294967296
 h:s.h<4294967296
def round(k w:Nat)(s:St):St:=
 {a:=(s.h+S1 s.e+ch s.e s.f s.g+k+w+(S0 s.a+maj s.a s.b s.c)) % 4294967296,b:=s.a,c:=s.b,d:=s.c,
  e:=(s.d+(s.h+S1 s.e+ch s.e s.f s.g+k+w)) % 4294967296,f:=s.e,g:=s.f,h:=s.g}
theorem ab4(k w:Nat)(s:St)(h:s.Ok):(round k w s).Ok:=
 ⟨kU _ (by decide),h.a,h.b,h.c,kU _ (by decide),h.e,h.f,h.g⟩
theorem afA(x:Nat)(hx:x<4294967296):bits .xor .u32 (bits .xor .u32 ((rQ x 6:Nat):Int) ((rQ x 11:Nat):Int)) ((rQ x 25:Nat):Int)=((S1 x:Nat):Int):=by
 rw[pF _ _ (jQ _ _ hx) (jQ _ _ hx),pF _ _ (AZ (jQ _ _ hx) (jQ _ _ hx)) (jQ _ _ hx)];rfl
theorem afz(x:Nat)(hx:x<4294967296):bits .xor .u32 (bits .xor .u32 ((rQ x 2:Nat):Int) ((rQ x 13:Nat):Int)) ((rQ x 22:Nat):Int)=((S0 x:Nat):Int):=by
 rw[pF _ _ (jQ _ _ hx) (jQ _ _ hx),pF _ _ (AZ (jQ _ _ hx) (jQ _ _ hx)) (jQ _ _ hx)];rfl
theorem adZ(e:Nat)(he:e<4294967296):4294967295 ^^^ e=4294967295-e:=by
 apply Nat.eq_of_testBit_eq;intro i;have h1:(4294967295:Nat)=2 ^ 32-1:=rfl
 have h2:4294967295-e=2 ^ 32-(e+1):=by omega
 rw[Nat.testBit_xor,h2,Nat.testBit_two_pow_sub_succ he,h1,Nat.testBit_two_pow_sub_one]
 by_cases hi:i<32
 ·simp[hi]
 have:e.testBit i=false:=Nat.testBit_lt_two_pow (ay he (by show 2 ^ 32<=2 ^ i;exact Nat.pow_le_pow_right (by decide) (by omega)))
 simp[hi,this]
theorem adW:IntKind.u32.max=((4294967295:Nat):Int):=by decide
theorem afF(e f g:Nat)(he:e<4294967296)(hf:f<4294967296)(hg:g<4294967296):bits .xor .u32 (bits .and .u32 (e:Int) (f:Int)) (bits .and .u32 (bits .xor .u32 IntKind.u32.max (e:Int)) (g:Int))=((ch e f g:Nat):Int):=by
 rw[adW,pF _ _ (by decide) he,adZ e he,Vh _ _ he hf,Vh _ _ (by omega) hg,pF _ _ (DK he) (DK (by omega))];rfl
theorem adV(a b c:Nat)(ha:a<4294967296)(hb:b<4294967296)(hc:c<4294967296):bits .xor .u32 (bits .xor .u32 (bits .and .u32 (a:Int) (b:Int)) (bits .and .u32 (a:Int) (c:Int))) (bits .and .u32 (b:Int) (c:Int))=((maj a b c:Nat):Int):=by
 rw[Vh _ _ ha hb,Vh _ _ ha hc,Vh _ _ hb hc,pF _ _ (DK ha) (DK ha),pF _ _ (AZ (DK ha) (DK ha)) (DK hb)];rfl
theorem ad8(k w:Nat)(s:St):(((s.h:Int)+(S1 s.e:Nat)+(ch s.e s.f s.g:Nat)+(k:Int)+(w:Int)+(S0 s.a:Nat)) % 4294967296+(maj s.a s.b s.c:Nat)) % 4294967296=(((round k w s).a:Nat):Int):=by
 show _=(((s.h+S1 s.e+ch s.e s.f s.g+k+w+(S0 s.a+maj s.a s.b s.c)) % 4294967296:Nat):Int);omega
theorem ad9(k w:Nat)(s:St):((s.d:Int)+((s.h:Int)+(S1 s.e:Nat)+(ch s.e s.f s.g:Nat)+(k:Int)+(w:Int)) % 4294967296) % 4294967296=(((round k w s).e:Nat):Int):=by
 show _=(((s.d+(s.h+S1 s.e+ch s.e s.f s.g+k+w)) % 4294967296:Nat):Int);omega
def after(K W:Nat->Nat)(s:St):Nat->St
 |0=>s
 |n+1=>round (K n) (W n) (after K W s n)
theorem RJ(K W:Nat->Nat)(s:St)(h:s.Ok):∀n,(after K W s n).Ok
 |0=>h
 |n+1=>ab4 _ _ _ (RJ K W s h n)
def join(s t:St):St:=⟨(s.a+t.a) % 4294967296,(s.b+t.b) % 4294967296,(s.c+t.c) % 4294967296,(s.d+t.d) % 4294967296,(s.e+t.e) % 4294967296,(s.f+t.f) % 4294967296,(s.g+t.g) % 4294967296,(s.h+t.h) % 4294967296⟩
theorem adR(s t:St):(join s t).Ok:=⟨kU _ (by decide),kU _ (by decide),kU _ (by decide),kU _ (by decide),kU _ (by decide),kU _ (by decide),kU _ (by decide),kU _ (by decide)⟩
def next(b:Nat->Nat)(l:Nat->Nat)(n:Nat):Nat:=
 if n<16 then b (4*n)*16777216+b (4*n+1)*65536+b (4*n+2)*256+b (4*n+3)
 else (l (n-16)+s0 (l (n-15))+l (n-7)+s1 (l (n-2))) % 4294967296
def upTo(b:Nat->Nat):Nat->Nat->Nat
 |0,_=>0
 |n+1,i=>if i=n then next b (upTo b n) n else upTo b n i
def word(b:Nat->Nat)(i:Nat):Nat:=upTo b (i+1) i
theorem zW(b:Nat->Nat):∀(n i:Nat),i<n->upTo b n i=word b i:=by
 intro n
 induction n with
 |zero=>intro i h;omega
 |succ n ih=>
  intro i h
  by_cases e:i=n
  ·subst e;rfl
  show(if i=n then _ else upTo b n i)=_;rw[ax e];exact ih i (by omega)
theorem UW(b:Nat->Nat)(n:Nat)(h:n<16):word b n=b (4*n)*16777216+b (4*n+1)*65536+b (4*n+2)*256+b (4*n+3):=by
 show(if n=n then next b (upTo b n) n else _)=_;rw[aD rfl];unfold next;rw[aD h]
theorem Pg(b:Nat->Nat)(n:Nat)(h:16<=n):word b n=(word b (n-16)+s0 (word b (n-15))+word b (n-7)+s1 (word b (n-2))) % 4294967296:=by
 show(if n=n then next b (upTo b n) n else _)=_;rw[aD rfl];unfold next;rw[ax (by omega),zW b n _ (by omega),zW b n _ (by omega),zW b n _ (by omega),zW b n _ (by omega)]
theorem word_lt(b:Nat->Nat)(hb:∀i,b i<256)(n:Nat):word b n<4294967296:=by
 by_cases h:n<16
 ·rw[UW b n h];have h0:=hb (4*n);have h1:=hb (4*n+1);have h2:=hb (4*n+2);have h3:=hb (4*n+3);omega
 rw[Pg b n (by omega)];exact kU _ (by decide)
def mixed(K:Nat->Nat)(s:St)(b:Nat->Nat):St:=join s (after K (word b) s 64)
theorem KR(K:Nat->Nat)(s:St)(b:Nat->Nat):(mixed K s b).Ok:=adR _ _
end Go.Proofs.YthhbpebihgjpjaaGreatDoor.Sha
namespace Go.Proofs.YthhbpebihgjpjaaGreatDoor
