import Derived.Test.YthhbpebihgjpjaaGreatDoorZ01
import Derived.Test.YthhbpebihgjpjaaGreatDoorChecked
import Derived.WalkKit
import Derived.Stop.Asserts
import Derived.RowKitTokens
namespace Go.Proofs.YthhbpebihgjpjaaGreatDoor
set_option maxRecDepth 100000
set_option maxHeartbeats 20000000
set_option linter.all false
section
open Go.RowKit Go.Extern.Stop Go.Stop Go.Extern
theorem Tryz.isTypeOf(v:Value)(w:aj):(Extern.ReflectliteType.typeOf #[.iface 472 v]).run Tryz.prog w=.ok (.iface 276 (.agg #[.pointer (some ⟨14,472,none⟩)])) w:=by kernel_rfl
theorem Tryz.call55(w:aj):(callFunc 381 #[.agg #[.pointer (some ⟨14,472,none⟩)]]).run Tryz.prog w=.ok (.value (.bool true)) w:=by
 have h55:= @run_callFunc_extern Tryz.prog 381 _ ((Extern.find Tryz.f381).getD fun _=>pure (.tuple #[])) Tryz.func381 (by kernel_rfl) (by kernel_rfl) (by kernel_rfl) (by kernel_rfl);rw[h55]
 have e:(((Extern.find Tryz.f381).getD fun _=>pure (.tuple #[])) #[.agg #[.pointer (some ⟨14,472,none⟩)]]).run Tryz.prog w=.ok (.bool true) w:=by kernel_rfl
 rw[e];rfl
theorem Tryz.isMethodComparable (v : Value) (w : aj) : (Go.method 601 276 v "Comparable").run Tryz.prog w = .ok (381, v) w := by kernel_rfl
theorem Tryz.isComp:(Tryz.prog.info? 472).map (·.comparable)=some true:=by kernel_rfl
theorem Tryz.isSize:(Tryz.prog.info? 490).map (·.size)=some 1:=by kernel_rfl
theorem Tryz.noIsE(v:Value)(xT:TypeId)(w:aj):(Instr.typeAssert (.iface 472 v) xT 278 true).run Tryz.prog w=.ok (.tuple #[.nilIface,.bool false]) w:=run_typeAssert_lacksB Tryz.underlying278 (by kernel_rfl) (by kernel_rfl) v xT w
theorem Tryz.noUnwrapE(v:Value)(xT:TypeId)(w:aj):(Instr.typeAssert (.iface 472 v) xT 281 true).run Tryz.prog w=.ok (.tuple #[.nilIface,.bool false]) w:=run_typeAssert_lacksB Tryz.underlying281 (by kernel_rfl) (by kernel_rfl) v xT w
theorem Tryz.noUnwrapsE(v:Value)(xT:TypeId)(w:aj):(Instr.typeAssert (.iface 472 v) xT 282 true).run Tryz.prog w=.ok (.tuple #[.nilIface,.bool false]) w:=run_typeAssert_lacksB Tryz.underlying282 (by kernel_rfl) (by kernel_rfl) v xT w
theorem Tryz.noIsF(v:Value)(xT:TypeId)(w:aj):(Instr.typeAssert (.iface 129 v) xT 278 true).run Tryz.prog w=.ok (.tuple #[.nilIface,.bool false]) w:=run_typeAssert_lacksB Tryz.underlying278 (by kernel_rfl) (by kernel_rfl) v xT w
theorem Tryz.hasUnwrapF(v:Value)(xT:TypeId)(w:aj):(Instr.typeAssert (.iface 129 v) xT 281 true).run Tryz.prog w=.ok (.tuple #[.iface 129 v,.bool true]) w:=run_typeAssert_hasB Tryz.underlying281 (by kernel_rfl) v xT w
theorem Tryz.methodUnwrap (v : Value) (w : aj) : (Go.method 601 129 v "Unwrap").run Tryz.prog w = .ok (375, v) w := by kernel_rfl
theorem adQ(a:Addr)(w:aj):
  Calls Tryz.prog 63 #[.iface 472 (.pointer (some a)),.iface 472 (.pointer (some a))] w fun e w'=>e=.returned (.bool true)/\w'=w:=by
 obtain⟨i,hi,hcmp⟩:=aX.1 Tryz.isComp;obtain⟨j,hj,hjs⟩:=aX.1 Tryz.isSize;have h8:= @run_callFunc_extern Tryz.prog 102 _ Extern.ReflectliteType.typeOf Tryz.func102 (by kernel_rfl) (by kernel_rfl) (by kernel_rfl) (by kernel_rfl);have tT:=Tryz.isTypeOf;have cT:=Tryz.call55;have mR:=Tryz.isMethodComparable;have heq:=run_eql_iface_ptr_same (P:=Tryz.prog) w a Tryz.underlying70 Tryz.underlying472 hi hcmp hj
 go_enter Tryz.func63,Tryz.ntmps63
 go_wp2
 refine Ac 1 ?_;rw[zx]
 go_wp2
 go_ret;exact⟨rfl,rfl⟩
theorem abD(a b:Addr)(ca cb:Array Value)(ta tb:TypeId)(w:aj)(hne:a≠b)(ha:w.heap[a.block]?=some (.cells ca ta (0,0)))(hb:w.heap[b.block]?=some (.cells cb tb (0,0))):
  Calls Tryz.prog 63 #[.iface 472 (.pointer (some a)),.iface 472 (.pointer (some b))] w fun e w'=>e=.returned (.bool false)/\w'=w:=by
 obtain⟨i,hi,hcmp⟩:=aX.1 Tryz.isComp;obtain⟨j,hj,hjs⟩:=aX.1 Tryz.isSize;have h8:= @run_callFunc_extern Tryz.prog 102 _ Extern.ReflectliteType.typeOf Tryz.func102 (by kernel_rfl) (by kernel_rfl) (by kernel_rfl) (by kernel_rfl);have tT:=Tryz.isTypeOf;have cT:=Tryz.call55;have mR:=Tryz.isMethodComparable;have nE:=Tryz.noIsE;have uE:=Tryz.noUnwrapE;have vE:=Tryz.noUnwrapsE;have heq:=run_eql_iface_ptr_other (P:=Tryz.prog) w Tryz.underlying70 Tryz.underlying472 hi hcmp hj (by rw[hjs];decide) hne ha hb
 go_enter Tryz.func63,Tryz.ntmps63
 go_wp2
 refine Ac 1 ?_;rw[zx]
 go_wp2
 go_ret;exact⟨rfl,rfl⟩
theorem Mk(pb po:Nat)(v:Value)(w:aj)(h1:w.cell? ⟨pb,po+1,none⟩=some v):
  Calls Tryz.prog 375 #[.pointer (some ⟨pb,po,none⟩)] w fun e w'=>e=.returned v/\w'=w:=by
 go_enter Tryz.func375,Tryz.ntmps375
 go_wp2
 go_ret;exact⟨rfl,rfl⟩
theorem Qo(pb po:Nat)(b:Addr)(w:aj)(h1:w.cell? ⟨pb,po+1,none⟩=some (.iface 472 (.pointer (some b)))):
  Calls Tryz.prog 63 #[.iface 129 (.pointer (some ⟨pb,po,none⟩)),.iface 472 (.pointer (some b))] w fun e w'=>e=.returned (.bool true)/\w'=w:=by
 obtain⟨i,hi,hcmp⟩:=aX.1 Tryz.isComp;obtain⟨j,hj,hjs⟩:=aX.1 Tryz.isSize;have h8:= @run_callFunc_extern Tryz.prog 102 _ Extern.ReflectliteType.typeOf Tryz.func102 (by kernel_rfl) (by kernel_rfl) (by kernel_rfl) (by kernel_rfl);have tT:=Tryz.isTypeOf;have cT:=Tryz.call55;have mR:=Tryz.isMethodComparable;have nE:=Tryz.noIsE;have nF:=Tryz.noIsF;have uF:=Tryz.hasUnwrapF;have mU:=Tryz.methodUnwrap;have heq:=run_eql_iface_ptr_same (P:=Tryz.prog) w b Tryz.underlying70 Tryz.underlying472 hi hcmp hj;have hty:=run_eql_iface_types (P:=Tryz.prog) 129 472 (.pointer (some ⟨pb,po,none⟩)) (.pointer (some b)) Tryz.underlying70 (by decide) w
 go_enter Tryz.func63,Tryz.ntmps63
 go_wp2
 refine Ac 2 ?_;rw[zx]
 go_wp2_with (go_at_call 375;refine(Mk _ _ _ _ h1).mono ?_;rintro e w' ⟨rfl,rfl⟩)
 rw[zx]
 go_wp2
 go_ret;exact⟨rfl,rfl⟩
theorem Ng(pb po:Nat)(b a:Addr)(ca cb:Array Value)(ta tb:TypeId)(w:aj)(h1:w.cell? ⟨pb,po+1,none⟩=some (.iface 472 (.pointer (some a))))(hne:a≠b)(ha:w.heap[a.block]?=some (.cells ca ta (0,0)))(hb:w.heap[b.block]?=some (.cells cb tb (0,0))):
  Calls Tryz.prog 63 #[.iface 129 (.pointer (some ⟨pb,po,none⟩)),.iface 472 (.pointer (some b))] w fun e w'=>e=.returned (.bool false)/\w'=w:=by
 obtain⟨i,hi,hcmp⟩:=aX.1 Tryz.isComp;obtain⟨j,hj,hjs⟩:=aX.1 Tryz.isSize;have h8:= @run_callFunc_extern Tryz.prog 102 _ Extern.ReflectliteType.typeOf Tryz.func102 (by kernel_rfl) (by kernel_rfl) (by kernel_rfl) (by kernel_rfl);have tT:=Tryz.isTypeOf;have cT:=Tryz.call55;have mR:=Tryz.isMethodComparable;have nE:=Tryz.noIsE;have uE:=Tryz.noUnwrapE;have vE:=Tryz.noUnwrapsE;have nF:=Tryz.noIsF;have uF:=Tryz.hasUnwrapF;have mU:=Tryz.methodUnwrap;have heq:=run_eql_iface_ptr_other (P:=Tryz.prog) w Tryz.underlying70 Tryz.underlying472 hi hcmp hj (by rw[hjs];decide) hne ha hb;have hty:=run_eql_iface_types (P:=Tryz.prog) 129 472 (.pointer (some ⟨pb,po,none⟩)) (.pointer (some b)) Tryz.underlying70 (by decide) w
 go_enter Tryz.func63,Tryz.ntmps63
 go_wp2
 refine Ac 2 ?_;rw[zx]
 go_wp2_with (go_at_call 375;refine(Mk _ _ _ _ h1).mono ?_;rintro e w' ⟨rfl,rfl⟩)
 rw[zx]
 go_wp2
 go_ret;exact⟨rfl,rfl⟩
theorem Tryz.valueOf36(t:Addr)(w:aj):(ReflectliteValue.unpack (.iface 131 (.pointer (some t)))).run Tryz.prog w
  =.ok (.agg #[.pointer (some ⟨14,131,none⟩),.pointer (some ⟨w.heap.size,0,none⟩),.int .u64 150]) (w.alloc (.cells #[.pointer (some t)] 131)):=by kernel_rfl
theorem Tryz.type36 (a : Addr) (w : aj) : (ReflectliteValue.methodAny (ReflectliteValue.valueError "reflectlite.Value.Type" 0) (fun t _ _ _ => ReflectliteType.toType t) #[.agg #[.pointer (some ⟨14, 131, none⟩), .pointer (some a), .int .u64 150]]).run Tryz.prog w
  =.ok (.iface 276 (.agg #[.pointer (some ⟨14,131,none⟩)])) w:=by kernel_rfl
theorem Tryz.methodKind (h : Value) (w : aj) : (Go.method 601 276 (.agg #[h]) "Kind").run Tryz.prog w = .ok (371, h) w := by kernel_rfl
theorem Tryz.kind36(w:aj):((ReflectliteType.abiMethod fun t=>Functor.map (fun a:Nat=>Value.int IntKind.u8 (a:Int)) (Rtype.kind t)) #[.pointer (some ⟨14,131,none⟩)]).run Tryz.prog w=.ok (.int .u8 22) w:=by kernel_rfl
theorem Tryz.kind28(w:aj):((ReflectliteType.abiMethod fun t=>Functor.map (fun a:Nat=>Value.int IntKind.u8 (a:Int)) (Rtype.kind t)) #[.pointer (some ⟨14,129,none⟩)]).run Tryz.prog w=.ok (.int .u8 22) w:=by kernel_rfl
theorem Tryz.parts36(a:Addr)(w:aj):(ReflectliteValue.parts (.agg #[.pointer (some ⟨14,131,none⟩),.pointer (some a),.int .u64 150])).run Tryz.prog w=.ok (some (131,a,150)) w:=by kernel_rfl
theorem Tryz.isNil36(a p:Addr)(W:aj)(ha:W.cell? a=some (.pointer (some p))):
  (ReflectliteValue.method (ReflectliteValue.valueError "reflectlite.Value.IsNil" 0) ReflectliteValue.isNil #[.agg #[.pointer (some ⟨14, 131, none⟩), .pointer (some a), .int .u64 150]]).run Tryz.prog W = .ok (.bool false) W := by
 change Sem.run _ (ReflectliteValue.parts (.agg #[.pointer (some ⟨14,131,none⟩),.pointer (some a),.int .u64 150])>>=_) _=_;simp only[NH,Tryz.parts36,Result.andThen]
 simp[ReflectliteValue.isNil,loadVar,isAgg,underlying,Tryz.underlying131,ha,Result.andThen]
theorem Tryz.methodElem (h : Value) (w : aj) : (Go.method 601 276 (.agg #[h]) "Elem").run Tryz.prog w = .ok (382, .agg #[h]) w := by kernel_rfl
theorem Tryz.methodImplements (h : Value) (w : aj) : (Go.method 601 276 (.agg #[h]) "Implements").run Tryz.prog w = .ok (383, .agg #[h]) w := by kernel_rfl
theorem Tryz.methodAssignableTo (h : Value) (w : aj) : (Go.method 601 276 (.agg #[h]) "AssignableTo").run Tryz.prog w = .ok (380, .agg #[h]) w := by kernel_rfl
theorem Tryz.elem36(w:aj):(ReflectliteType.method ReflectliteType.elem #[.agg #[.pointer (some ⟨14,131,none⟩)]]).run Tryz.prog w=.ok (.iface 276 (.agg #[.pointer (some ⟨14,129,none⟩)])) w:=by kernel_rfl
theorem Tryz.implements28 (w : aj) : (ReflectliteType.relation "Implements" ReflectliteType.implements_ #[.agg #[.pointer (some ⟨14, 129, none⟩)], .iface 276 (.agg #[.pointer (some ⟨14, 70, none⟩)])]).run Tryz.prog w = .ok (.bool true) w := by kernel_rfl
theorem Tryz.typeOf28(v:Value)(w:aj):(ReflectliteType.typeOf #[.iface 129 v]).run Tryz.prog w=.ok (.iface 276 (.agg #[.pointer (some ⟨14,129,none⟩)])) w:=by kernel_rfl
theorem Tryz.typeOf66(v:Value)(w:aj):(ReflectliteType.typeOf #[.iface 472 v]).run Tryz.prog w=.ok (.iface 276 (.agg #[.pointer (some ⟨14,472,none⟩)])) w:=by kernel_rfl
theorem Tryz.assignable28 (w : aj) : (ReflectliteType.relation "AssignableTo" ReflectliteType.assignableTo #[.agg #[.pointer (some ⟨14, 129, none⟩)], .iface 276 (.agg #[.pointer (some ⟨14, 129, none⟩)])]).run Tryz.prog w = .ok (.bool true) w := by kernel_rfl
theorem Tryz.assignable66 (w : aj) : (ReflectliteType.relation "AssignableTo" ReflectliteType.assignableTo #[.agg #[.pointer (some ⟨14, 472, none⟩)], .iface 276 (.agg #[.pointer (some ⟨14, 129, none⟩)])]).run Tryz.prog w = .ok (.bool false) w := by kernel_rfl
theorem Tryz.valueOf28(e:Addr)(w:aj):(ReflectliteValue.unpack (.iface 129 (.pointer (some e)))).run Tryz.prog w
  =.ok (.agg #[.pointer (some ⟨14,129,none⟩),.pointer (some ⟨w.heap.size,0,none⟩),.int .u64 150]) (w.alloc (.cells #[.pointer (some e)] 129)):=by kernel_rfl
theorem Tryz.noAsE(v:Value)(xT:TypeId)(w:aj):(Instr.typeAssert (.iface 472 v) xT 286 true).run Tryz.prog w=.ok (.tuple #[.nilIface,.bool false]) w:=run_typeAssert_lacksB Tryz.underlying286 (by kernel_rfl) (by kernel_rfl) v xT w
theorem Tryz.noUnwrapE'(v:Value)(xT:TypeId)(w:aj):(Instr.typeAssert (.iface 472 v) xT 281 true).run Tryz.prog w=.ok (.tuple #[.nilIface,.bool false]) w:=run_typeAssert_lacksB Tryz.underlying281 (by kernel_rfl) (by kernel_rfl) v xT w
theorem Tryz.noUnwrapsE'(v:Value)(xT:TypeId)(w:aj):(Instr.typeAssert (.iface 472 v) xT 282 true).run Tryz.prog w=.ok (.tuple #[.nilIface,.bool false]) w:=run_typeAssert_lacksB Tryz.underlying282 (by kernel_rfl) (by kernel_rfl) v xT w
theorem Tryz.elemOf36(w:aj):(Rtype.elem? 131).run Tryz.prog w=.ok (some 129) w:=by kernel_rfl
theorem Tryz.mk28(p:Addr)(w:aj):(ReflectliteValue.mk 129 p ReflectliteValue.flagAddr).run Tryz.prog w=.ok (.agg #[.pointer (some ⟨14,129,none⟩),.pointer (some p),.int .u64 406]) w:=by kernel_rfl
theorem Tryz.elemV36(a p:Addr)(W:aj)(ha:W.cell? a=some (.pointer (some p))):
  (ReflectliteValue.method (ReflectliteValue.valueError "reflectlite.Value.Elem" 0) ReflectliteValue.elem #[.agg #[.pointer (some ⟨14, 131, none⟩), .pointer (some a), .int .u64 150]]).run Tryz.prog W
    =.ok (.agg #[.pointer (some ⟨14,129,none⟩),.pointer (some p),.int .u64 406]) W:=by
 change Sem.run _ (ReflectliteValue.parts (.agg #[.pointer (some ⟨14,131,none⟩),.pointer (some a),.int .u64 150])>>=_) _=_;simp only[NH,Tryz.parts36,Result.andThen]
 simp[ReflectliteValue.elem,loadVar,isAgg,underlying,Tryz.underlying131,ha,Result.andThen,Tryz.elemOf36,Tryz.mk28]
theorem Tryz.parts28a(a:Addr)(w:aj):(ReflectliteValue.parts (.agg #[.pointer (some ⟨14,129,none⟩),.pointer (some a),.int .u64 406])).run Tryz.prog w=.ok (some (129,a,406)) w:=by kernel_rfl
theorem Tryz.parts28(a:Addr)(w:aj):(ReflectliteValue.parts (.agg #[.pointer (some ⟨14,129,none⟩),.pointer (some a),.int .u64 150])).run Tryz.prog w=.ok (some (129,a,150)) w:=by kernel_rfl
theorem Tryz.direct28(w:aj):(Rtype.directlyAssignable 129 129).run Tryz.prog w=.ok true w:=by kernel_rfl
theorem Tryz.set28(ta b e:Addr)(old:Value)(W:aj)(hb:W.cell? b=some (.pointer (some e)))(ht:W.cell? ta=some old)(hf:W.frozen? ta=false):
  (ReflectliteValue.set #[.agg #[.pointer (some ⟨14,129,none⟩),.pointer (some ta),.int .u64 406],.agg #[.pointer (some ⟨14,129,none⟩),.pointer (some b),.int .u64 150]]).run Tryz.prog W
    =.ok (.tuple #[]) (W.setCell ta (.pointer (some e))):=by
 change Sem.run _ (ReflectliteValue.parts (.agg #[.pointer (some ⟨14,129,none⟩),.pointer (some ta),.int .u64 406])>>=fun p=>ReflectliteValue.parts (.agg #[.pointer (some ⟨14,129,none⟩),.pointer (some b),.int .u64 150])>>=_) _=_;simp only[NH,Tryz.parts28a,Tryz.parts28,Result.andThen]
 simp[ReflectliteValue.flagAddr,loadVar,isAgg,underlying,Tryz.underlying129,hb,Result.andThen,Tryz.direct28,storeVar,Value.cells,storeCells,Addr.add]
 rw[run_store Tryz.prog W ta _ _ (by rfl)]
 simp[ht,hf]
theorem afD(e t:Addr)(old:Value)(w:aj)(hg:w.cell? ⟨9,0,none⟩=some (.iface 276 (.agg #[.pointer (some ⟨14,70,none⟩)])))(ht0:w.cell? t=some old)(hf0:w.frozen? t=false):
  Calls Tryz.prog 64 #[.iface 129 (.pointer (some e)),.iface 131 (.pointer (some t))] w fun ev w'=>ev=.returned (.bool true)/\w'=((((w.alloc (.cells #[.pointer (some t)] 131)).alloc (.cells #[.pointer (some ⟨14,131,none⟩),.pointer (some ⟨w.heap.size,0,none⟩),.int .u64 150] 183)).alloc (.cells #[.pointer (some ⟨14,131,none⟩),.pointer (some ⟨w.heap.size,0,none⟩),.int .u64 150] 183)).alloc (.cells #[.pointer (some e)] 129)).setCell t (.pointer (some e)):=by
 have h10 := @run_callFunc_extern Tryz.prog 104 _ (fun args => ReflectliteValue.unpack (args.getD 0 (.tuple #[]))) Tryz.func104 (by kernel_rfl) (by kernel_rfl) (by kernel_rfl) (by kernel_rfl);have h11 := @run_callFunc_extern Tryz.prog 105 _ (ReflectliteValue.methodAny (ReflectliteValue.valueError "reflectlite.Value.Type" 0) (fun t _ _ _ => ReflectliteType.toType t)) Tryz.func105 (by kernel_rfl) (by kernel_rfl) (by kernel_rfl) (by kernel_rfl);have h12 := @run_callFunc_extern Tryz.prog 106 _ (ReflectliteValue.method (ReflectliteValue.valueError "reflectlite.Value.IsNil" 0) ReflectliteValue.isNil) Tryz.func106 (by kernel_rfl) (by kernel_rfl) (by kernel_rfl) (by kernel_rfl);have h30 := @run_callFunc_extern Tryz.prog 371 _ (ReflectliteType.abiMethod fun t => do pure (.int .u8 (← Rtype.kind t))) Tryz.func371 (by kernel_rfl) (by kernel_rfl) (by kernel_rfl) (by kernel_rfl);have h56 := @run_callFunc_extern Tryz.prog 382 _ (ReflectliteType.method ReflectliteType.elem) Tryz.func382 (by kernel_rfl) (by kernel_rfl) (by kernel_rfl) (by kernel_rfl);have h57 := @run_callFunc_extern Tryz.prog 383 _ (ReflectliteType.relation "Implements" ReflectliteType.implements_) Tryz.func383 (by kernel_rfl) (by kernel_rfl) (by kernel_rfl) (by kernel_rfl);have h8 := @run_callFunc_extern Tryz.prog 102 _ ReflectliteType.typeOf Tryz.func102 (by kernel_rfl) (by kernel_rfl) (by kernel_rfl) (by kernel_rfl);have h54 := @run_callFunc_extern Tryz.prog 380 _ (ReflectliteType.relation "AssignableTo" ReflectliteType.assignableTo) Tryz.func380 (by kernel_rfl) (by kernel_rfl) (by kernel_rfl) (by kernel_rfl);have h14 := @run_callFunc_extern Tryz.prog 176 _ (ReflectliteValue.method (ReflectliteValue.valueError "reflectlite.Value.Elem" 0) ReflectliteValue.elem) Tryz.func176 (by kernel_rfl) (by kernel_rfl) (by kernel_rfl) (by kernel_rfl);have h15 := @run_callFunc_extern Tryz.prog 177 _ ReflectliteValue.set Tryz.func177 (by kernel_rfl) (by kernel_rfl) (by kernel_rfl) (by kernel_rfl);have tO := Tryz.typeOf28;have mA := Tryz.methodAssignableTo;have a28 := Tryz.assignable28;have v28 := Tryz.valueOf28;have f6 := Tryz.valueOf36;have f7 := Tryz.type36;have mK := Tryz.methodKind;have mE := Tryz.methodElem;have mI := Tryz.methodImplements;have k36 := Tryz.kind36;have k28 := Tryz.kind28;have e36 := Tryz.elem36;have i28 := Tryz.implements28;have n8 := Tryz.isNil36 ⟨w.heap.size, 0, none⟩ t ((w.alloc (.cells #[.pointer (some t)] 131)).alloc (.cells #[.pointer (some ⟨14, 131, none⟩), .pointer (some ⟨w.heap.size, 0, none⟩), .int .u64 150] 183)) (by simp)
 have hlt:9<w.heap.size:=by
  rcases bR 9 w.heap.size with h|h
  ·exact h
  simp[World.cell?,eU h] at hg
 have hg2:((w.alloc (.cells #[.pointer (some t)] 131)).alloc (.cells #[.pointer (some ⟨14,131,none⟩),.pointer (some ⟨w.heap.size,0,none⟩),.int .u64 150] 183)).cell? ⟨9,0,none⟩=some (.iface 276 (.agg #[.pointer (some ⟨14,70,none⟩)])):=by
  rw[bO _ _ ⟨9,0,none⟩ (by simp;omega),bO _ _ ⟨9,0,none⟩ hlt];exact hg
 have htl:t.block<w.heap.size:=by
  rcases bR t.block w.heap.size with h|h
  ·exact h
  simp[World.cell?,eU h] at ht0
 have el:=Tryz.elemV36 ⟨w.heap.size,0,none⟩ t (((w.alloc (.cells #[.pointer (some t)] 131)).alloc (.cells #[.pointer (some ⟨14,131,none⟩),.pointer (some ⟨w.heap.size,0,none⟩),.int .u64 150] 183)).alloc (.cells #[.pointer (some ⟨14,131,none⟩),.pointer (some ⟨w.heap.size,0,none⟩),.int .u64 150] 183)) (by rw[bO _ _ ⟨w.heap.size,0,none⟩ (by simp;omega)];simp)
 have st:=Tryz.set28 t ⟨w.heap.size+1+1+1,0,none⟩ e old ((((w.alloc (.cells #[.pointer (some t)] 131)).alloc (.cells #[.pointer (some ⟨14,131,none⟩),.pointer (some ⟨w.heap.size,0,none⟩),.int .u64 150] 183)).alloc (.cells #[.pointer (some ⟨14,131,none⟩),.pointer (some ⟨w.heap.size,0,none⟩),.int .u64 150] 183)).alloc (.cells #[.pointer (some e)] 129))
  (by rw[World.cell?_alloc_at _ _ _ _ (by simp)];rfl)
  (by rw[bO _ _ t (by simp;omega),bO _ _ t (by simp;omega),bO _ _ t (by simp;omega),bO _ _ t htl];exact ht0)
  (by rw[yZ _ _ t (by simp;omega),yZ _ _ t (by simp;omega),yZ _ _ t (by simp;omega),yZ _ _ t (Nat.ne_of_lt htl)];exact hf0)
 go_enter Tryz.func64,Tryz.ntmps64
 go_wp2
 refine Ac 1 ?_;rw[zx]
 go_wp2
 go_ret;exact⟨rfl,rfl⟩
theorem adp(e t:Addr)(w:aj)(hg:w.cell? ⟨9,0,none⟩=some (.iface 276 (.agg #[.pointer (some ⟨14,70,none⟩)]))):
  Calls Tryz.prog 64 #[.iface 472 (.pointer (some e)),.iface 131 (.pointer (some t))] w fun ev w'=>ev=.returned (.bool false)/\w'=(((w.alloc (.cells #[.pointer (some t)] 131)).alloc (.cells #[.pointer (some ⟨14,131,none⟩),.pointer (some ⟨w.heap.size,0,none⟩),.int .u64 150] 183)).alloc (.cells #[.pointer (some ⟨14,131,none⟩),.pointer (some ⟨w.heap.size,0,none⟩),.int .u64 150] 183)):=by
 have h10 := @run_callFunc_extern Tryz.prog 104 _ (fun args => ReflectliteValue.unpack (args.getD 0 (.tuple #[]))) Tryz.func104 (by kernel_rfl) (by kernel_rfl) (by kernel_rfl) (by kernel_rfl);have h11 := @run_callFunc_extern Tryz.prog 105 _ (ReflectliteValue.methodAny (ReflectliteValue.valueError "reflectlite.Value.Type" 0) (fun t _ _ _ => ReflectliteType.toType t)) Tryz.func105 (by kernel_rfl) (by kernel_rfl) (by kernel_rfl) (by kernel_rfl);have h12 := @run_callFunc_extern Tryz.prog 106 _ (ReflectliteValue.method (ReflectliteValue.valueError "reflectlite.Value.IsNil" 0) ReflectliteValue.isNil) Tryz.func106 (by kernel_rfl) (by kernel_rfl) (by kernel_rfl) (by kernel_rfl);have h30 := @run_callFunc_extern Tryz.prog 371 _ (ReflectliteType.abiMethod fun t => do pure (.int .u8 (← Rtype.kind t))) Tryz.func371 (by kernel_rfl) (by kernel_rfl) (by kernel_rfl) (by kernel_rfl);have h56 := @run_callFunc_extern Tryz.prog 382 _ (ReflectliteType.method ReflectliteType.elem) Tryz.func382 (by kernel_rfl) (by kernel_rfl) (by kernel_rfl) (by kernel_rfl);have h57 := @run_callFunc_extern Tryz.prog 383 _ (ReflectliteType.relation "Implements" ReflectliteType.implements_) Tryz.func383 (by kernel_rfl) (by kernel_rfl) (by kernel_rfl) (by kernel_rfl);have h8 := @run_callFunc_extern Tryz.prog 102 _ ReflectliteType.typeOf Tryz.func102 (by kernel_rfl) (by kernel_rfl) (by kernel_rfl) (by kernel_rfl);have h54 := @run_callFunc_extern Tryz.prog 380 _ (ReflectliteType.relation "AssignableTo" ReflectliteType.assignableTo) Tryz.func380 (by kernel_rfl) (by kernel_rfl) (by kernel_rfl) (by kernel_rfl);have tO := Tryz.typeOf66;have mA := Tryz.methodAssignableTo;have a66 := Tryz.assignable66;have f6 := Tryz.valueOf36;have f7 := Tryz.type36;have mK := Tryz.methodKind;have mE := Tryz.methodElem;have mI := Tryz.methodImplements;have k36 := Tryz.kind36;have k28 := Tryz.kind28;have e36 := Tryz.elem36;have i28 := Tryz.implements28;have nA := Tryz.noAsE;have nU := Tryz.noUnwrapE';have nV := Tryz.noUnwrapsE';have n8 := Tryz.isNil36 ⟨w.heap.size, 0, none⟩ t ((w.alloc (.cells #[.pointer (some t)] 131)).alloc (.cells #[.pointer (some ⟨14, 131, none⟩), .pointer (some ⟨w.heap.size, 0, none⟩), .int .u64 150] 183)) (by simp)
 have hlt:9<w.heap.size:=by
  rcases bR 9 w.heap.size with h|h
  ·exact h
  simp[World.cell?,eU h] at hg
 have hg2:((w.alloc (.cells #[.pointer (some t)] 131)).alloc (.cells #[.pointer (some ⟨14,131,none⟩),.pointer (some ⟨w.heap.size,0,none⟩),.int .u64 150] 183)).cell? ⟨9,0,none⟩=some (.iface 276 (.agg #[.pointer (some ⟨14,70,none⟩)])):=by
  rw[bO _ _ ⟨9,0,none⟩ (by simp;omega),bO _ _ ⟨9,0,none⟩ hlt];exact hg
 go_enter Tryz.func64,Tryz.ntmps64
 go_wp2
 refine Ac 1 ?_;rw[zx]
 go_wp2
 go_ret;exact⟨rfl,rfl⟩
