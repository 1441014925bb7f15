import Derived.Test.YthhbpebihgjpjaaGreatDoorZ18
import Derived.Shelf.SlMaps.Clone
namespace Go.Proofs.YthhbpebihgjpjaaGreatDoor
set_option maxRecDepth 1000000
set_option maxHeartbeats 20000000
set_option linter.all false
section
open Go.RowKit Go.MuLone Go.Maps
theorem NV(b:Nat)(es:Array MapEntry)(clock:Nat)(w:ak)(hb:w.heap[b]?=some (.map es clock)):
  Calls Tryz.prog 60 #[.map (some b)] w fun e w'=>e=.returned (.map (some w.heap.size))/\w'=w.alloc (.map es clock):=by
 have hq:=fun w=>run_eql_map_nil_sl (P:=Tryz.prog) w 85 _ _ (some b) Tryz.underlying85
 go_enter Tryz.func60,Tryz.ntmps60
 go_wp2
 rw[run_callFunc_extern Tryz.func96 dD dD dD (e:=Extern.MapsClone.clone) dD,run_maps_clone_sl w 85 hb];simp only[Result.andThen];rw[Oper.upon_value]
 go_wp2
 rw[run_typeAssert_map_sl _ 85 20 _ _ _ Tryz.underlying85];simp only[Result.andThen];rw[Oper.upon_value]
 go_wp2
 go_ret;exact⟨rfl,rfl⟩
variable {w:ak}{b n:Nat}{l:List bP}
theorem dF.cloned(h:dF w b n l):∃es clock,w.heap[b]?=some (.map es clock)/\dF (w.alloc (.map es clock)) w.heap.size n l:=by
 obtain⟨D,⟨es,clock,hb,r⟩,hh⟩:=h;exact⟨es,clock,hb,D,⟨es,clock,(MapKept.heap_alloc w _).1,r⟩,hh⟩
variable {fb nb sb:Nat}{d:dX}{lk:Int}{sv:Value}
theorem bH.setSafe(h:bH w fb d lk nb sb sv)(x:Nat):bH (w.setCell ⟨fb,4,none⟩ (.map (some x))) fb d lk nb x sv:=by
 unfold bH;rw[aR _ _ _ _ _ _ h];rfl
theorem bH.setSince(h:bH w fb d lk nb sb sv)(x:Value):bH (w.setCell ⟨fb,5,none⟩ x) fb d lk nb sb x:=by
 unfold bH;rw[aR _ _ _ _ _ _ h];rfl
theorem bH.setNow(h:bH w fb d lk nb sb sv)(x:Nat):bH (w.setCell ⟨fb,3,none⟩ (.map (some x))) fb d lk x sb sv:=by
 unfold bH;rw[aR _ _ _ _ _ _ h];rfl
theorem qP(l:List bP)(d:dX)(fb:Nat)(lk:Int)(nb sb n:Nat)(sv:Value)(w:ak)(h:bH w fb d lk nb sb sv)(hm:dF w nb n l)(hnb:nb≠fb):
  Calls Tryz.prog 61 #[.pointer (some ⟨fb,0,none⟩)] w fun e w'=>e=.returned (.tuple #[])/\bH w' fb d lk nb w.heap.size (.slice none 0 0)/\dF w' nb n l/\dF w' w.heap.size n l/\aW (fun k=>k=fb) w w':=by
 have c3:w.cell? ⟨fb,3,none⟩=some (.map (some nb)):=by rw[aj _ _ _ _ _ _ h];rfl
 have hfb:=h.lt;obtain⟨es,clock,hb,hc⟩:=hm.cloned;have HC:=aV hc;have HN:Hid (dF (w.alloc (.map es clock)) nb n l):=hm.keep (bC _ _ _ hm.lt);have HR:Hid (bH (w.alloc (.map es clock)) fb d lk nb sb sv):=(bC w _ fb hfb).trans h;have HT:Hid (aW (fun k=>k=fb) w (w.alloc (.map es clock))):=aW.of_below _ ((ay _ _).alloc (ai _) _);clear h hm hc
 go_enter Tryz.func61,Tryz.ntmps61
 go_wp2_with fail
 refine(NV nb es clock w hb).mono ?_;rintro e w3 ⟨rfl,hw3⟩;rw[<-hw3] at HC HN HR HT;obtain⟨z,hz⟩:∃z,z=w.heap.size:=⟨_,rfl⟩;rw[<-hz] at HC⊢
 have HZ:Hid (z≠fb):=by show _≠_;omega
 have c4:w3.cell? ⟨fb,4,none⟩=some (.map (some sb)):=by rw[aj _ _ _ _ _ _ HR.out];rfl
 have f4:w3.frozen? ⟨fb,4,none⟩=false:=aD _ _ _ _ _ HR.out;obtain⟨cs5,hc5⟩:∃u,u=sv:=⟨_,rfl⟩
 have c5:w3.cell? ⟨fb,5,none⟩=some sv:=by rw[aj _ _ _ _ _ _ HR.out];rfl
 have f5:w3.frozen? ⟨fb,5,none⟩=false:=aD _ _ _ _ _ HR.out
 have HX:Hid (bH ((w3.setCell ⟨fb,4,none⟩ (.map (some z))).setCell ⟨fb,5,none⟩ (.slice none 0 0)) fb d lk nb z (.slice none 0 0)/\dF ((w3.setCell ⟨fb,4,none⟩ (.map (some z))).setCell ⟨fb,5,none⟩ (.slice none 0 0)) nb n l/\dF ((w3.setCell ⟨fb,4,none⟩ (.map (some z))).setCell ⟨fb,5,none⟩ (.slice none 0 0)) z n l/\aW (fun k=>k=fb) w ((w3.setCell ⟨fb,4,none⟩ (.map (some z))).setCell ⟨fb,5,none⟩ (.slice none 0 0))):=
  ⟨(HR.out.setSafe z).setSince _,(HN.out.keep (au _ _ _ _ hnb)).keep (au _ _ _ _ hnb),(HC.out.keep (au _ _ _ _ HZ.out)).keep (au _ _ _ _ HZ.out),(HT.out.setCell ⟨fb,4,none⟩ _ (aK rfl)).setCell ⟨fb,5,none⟩ _ (aK rfl)⟩
 have HZ2:=aV hz.symm;clear HC HN HR HT hw3 hz hb c3 hc5
 go_wp2
 go_end0
 exact⟨rfl,by rw[HZ2.out];exact HX.out.1,HX.out.2.1,by rw[HZ2.out];exact HX.out.2.2.1,HX.out.2.2.2⟩
def JJ(l:List bP)(vD:Value)(d:dX)(fb nb sb n:Nat)(sv:Value)(w:ak)(e:Ending)(w':ak):Prop:=
 dF w' nb n l/\aW (fun k=>k=fb) w w'/\
 (((gY d).down=true/\e=.returned vD/\bH w' fb (gY d) 0 nb sb sv)\/
  ((gY d).down=false/\e=.returned .nilIface/\∃z,w.heap.size<=z/\bH w' fb (gY d) 0 nb z (.slice none 0 0)/\dF w' z n l))
theorem QU(l:List bP)(vD:Value)(d:dX)(fb:Nat)(nb sb n:Nat)(sv:Value)(w:ak)(h:bH w fb d 0 nb sb sv)(hm:dF w nb n l)(hnb:nb≠fb)(hhi:d.fuse<=9223372036854775807)
  (hv:w.cell? ⟨3,0,none⟩=some vD) (hg:3≠fb):
  Calls Tryz.prog 173 #[.pointer (some ⟨fb,0,none⟩)] w (JJ l vD d fb nb sb n sv w):=by
 have HR1:=aV (h.setLock 1);have HT1:Hid (aW (fun k=>k=fb) w (w.setCell ⟨fb,0,none⟩ (.int .i32 1))):=(aW.refl _ w).setCell ⟨fb,0,none⟩ _ (aK rfl);have HV0:=aV hv;have HM0:=aV hm
 have h0:w.cell? ⟨fb,0,none⟩=some (.int .i32 0):=by rw[aj _ _ _ _ _ _ h];rfl
 have f0:w.frozen? ⟨fb,0,none⟩=false:=aD _ _ _ _ _ h;clear h hm hv
 go_enter_defers Tryz.func173,Tryz.ntmps173
 go_wp2_with (go_at_call 58;refine(lock_free ku ⟨fb,0,none⟩ _ h0 f0).mono ?_;rintro e w1 ⟨rfl,rfl⟩;refine dO ?_)
 clear h0 f0;generalize w.setCell ⟨fb,0,none⟩ (.int .i32 1)=w1 at*;unfold Hid
 go_wp2_with fail
 refine(JS d fb 1 nb sb sv w1 HR1.out hhi).mono ?_;rintro e w2 ⟨rfl,hr2,ht2⟩;have HT2:Hid (aW (fun k=>k=fb) w w2):=HT1.out.trans ht2 (fun i hi=>aK hi);have HR2:=aV hr2;have HM2:=aV (HM0.out.keep (HT2.out.block nb HM0.out.lt hnb))
 have hv2:w2.cell? ⟨3,0,none⟩=some vD:=by
  rw[aF (w:=w) (a:=⟨3,0,none⟩) (HT2.out.block _ (aG HV0.out) hg)];exact HV0.out
 clear hr2 ht2 HR1 HT1
 by_cases hdn:(gY d).down=true
 ·have HX:Hid (∀w',bH w' fb (gY d) 0 nb sb sv->dF w' nb n l->aW (fun k=>k=fb) w w'->JJ l vD d fb nb sb n sv w (.returned vD) w'):=fun w' a b c=>⟨b,c,aK ⟨hdn,rfl,a⟩⟩
  rw[hdn]
  go_wp2
  refine fA (f:=59) (args:=#[.pointer (some ⟨fb,0,none⟩)]) eB FE ?_;refine(unlock_deferred ku ⟨fb,0,none⟩ .returning _ ?_ ?_).mono ?_;(rw[aj _ _ _ _ _ _ HR2.out];rfl);(exact aD _ _ _ _ _ HR2.out);rintro e u' w'' ⟨rfl,rfl,rfl⟩;refine⟨_,jS rfl _ _ _,?_⟩;exact HX.out _ (HR2.out.setLock 0) (HM2.out.keep (au _ _ _ _ hnb)) (HT2.out.setCell ⟨fb,0,none⟩ _ (aK rfl))
 have hdn2:(gY d).down=false:=by simpa using hdn
 have HX:Hid (∀w' z,w.heap.size<=z->bH w' fb (gY d) 0 nb z (.slice none 0 0)->dF w' nb n l->dF w' z n l->aW (fun k=>k=fb) w w'->JJ l vD d fb nb sb n sv w (.returned .nilIface) w'):=fun w' z hz a b b2 c=>⟨b,c,aP ⟨hdn2,rfl,z,hz,a,b2⟩⟩
 rw[hdn2]
 go_wp2_with fail
 refine(qP l (gY d) fb 1 nb sb n sv w2 HR2.out HM2.out hnb).mono ?_;rintro e w3 ⟨rfl,hr3,hm3,hz3,ht3⟩;have HT3:Hid (aW (fun k=>k=fb) w w3):=HT2.out.trans ht3 (fun i hi=>aK hi);have HR3:=aV hr3;have HM3:=aV (aO hm3 hz3)
 have hzf:w2.heap.size≠fb:=by have:=HR2.out.lt;omega
 have hws:w.heap.size<=w2.heap.size:=HT2.out.size;clear hr3 hm3 hz3 ht3 HR2 HM2 HT2 hv2;have HR2:=HR3
 go_wp2
 refine fA (f:=59) (args:=#[.pointer (some ⟨fb,0,none⟩)]) eB FE ?_;refine(unlock_deferred ku ⟨fb,0,none⟩ .returning _ ?_ ?_).mono ?_;(rw[aj _ _ _ _ _ _ HR2.out];rfl);(exact aD _ _ _ _ _ HR2.out);rintro e u' w'' ⟨rfl,rfl,rfl⟩;refine⟨_,jS rfl _ _ _,?_⟩;exact HX.out _ w2.heap.size hws (HR2.out.setLock 0) (HM3.out.1.keep (au _ _ _ _ hnb)) (HM3.out.2.keep (au _ _ _ _ hzf)) (HT3.out.setCell ⟨fb,0,none⟩ _ (aK rfl))
theorem QH(fv:Value)(data:ah)(cuts:Bool)(vD:Value)(d:dX)(fb:Nat)(lk:Int)(nb sb:Nat)(sv:Value)(w:ak)(h:bH w fb d lk nb sb sv)(hhi:d.fuse<=9223372036854775807)(hdn:(gY d).down=true)
  (hv:w.cell? ⟨3,0,none⟩=some vD) (hg:3≠fb):
  Calls Tryz.prog 75 #[.pointer (some ⟨fb,0,none⟩),.agg #[fv,.string data,.bool cuts]] w fun e w'=>e=.returned vD/\bH w' fb (gY d) lk nb sb sv/\aW (fun k=>k=fb) w w':=by
 have HR:Hid (bH (w.alloc (.cells #[fv,.string data,.bool cuts] 120)) fb d lk nb sb sv):=(bC w _ fb h.lt).trans h;have HT:Hid (aW (fun k=>k=fb) w (w.alloc (.cells #[fv,.string data,.bool cuts] 120))):=aW.of_below _ ((ay _ _).alloc (ai _) _);have HV:=aV hv;clear h hv
 go_enter Tryz.func75,Tryz.ntmps75
 go_wp2_with fail
 generalize w.alloc (.cells #[fv,.string data,.bool cuts] 120)=w1 at*;refine(JS d fb lk nb sb sv w1 HR.out hhi).mono ?_;rintro e w2 ⟨rfl,hr2,ht2⟩;have HR2:=aV hr2;have HT2:Hid (aW (fun k=>k=fb) w w2):=HT.out.trans ht2 (fun i hi=>aK hi)
 have hv2:w2.cell? ⟨3,0,none⟩=some vD:=by
  rw[aF (w:=w) (a:=⟨3,0,none⟩) (HT2.out.block _ (aG HV.out) hg)];exact HV.out
 clear hr2 ht2 HR HT;rw[hdn]
 go_wp2
 go_ret;exact⟨rfl,HR2.out,HT2.out⟩
structure jB where
 fn:Nat
 cap:Array Value
 data:ah
 cuts:Bool
def sj(l:List jB):List Value:=l.flatMap fun x=>[.func (.func x.fn) #[] x.cap,.string x.data,.bool x.cuts]
theorem KX(l r:List jB):sj (l++r)=sj l++sj r:=by simp[sj]
structure uU(v:Value)(l:List jB)(w:ak):Prop where
 own:w.ownsRow 0 120 3 v l.length (sj l)
variable {v:Value}
theorem uU.form{l:List jB}(h:uU v l w):∃ao cap,v=.slice ao l.length cap:=by
 obtain⟨_,⟨rfl,h0⟩|⟨g,cap,cur,rfl,_⟩⟩:=h.own
 ·exact⟨none,0,by rw[h0]⟩
 exact⟨_,_,rfl⟩
variable {w':ak}
theorem uU.keep{l:List jB}(h:uU v l w)(hb:∀k,v.ownBlock=some k->w'.heap[k]?=w.heap[k]?):uU v l w':=by
 obtain⟨h1,⟨rfl,h0⟩|⟨g,cap,cur,rfl,hg,hh,r⟩⟩:=h.own
 ·exact⟨⟨h1,aK ⟨rfl,h0⟩⟩⟩
 exact⟨⟨h1,aP ⟨g,cap,cur,rfl,hg,by rw[hb g rfl];exact hh,r⟩⟩⟩
theorem uU.lt{l:List jB}(h:uU v l w)(k:Nat)(hk:v.ownBlock=some k):k<w.heap.size:=by
 obtain⟨h1,⟨rfl,h0⟩|⟨g,cap,cur,rfl,hg,hh,r⟩⟩:=h.own
 ·cases hk
 have e:g=k:=ax hk;subst e
 rcases bX g w.heap.size with c|c
 ·exact c
 rw[fq c] at hh;cases hh
theorem TS(fn:Nat)(cap:Array Value)(data:ah)(cuts:Bool)(S:List jB)(M:ak->Prop)(d:dX)(fb:Nat)(lk:Int)(nb sb:Nat)(sv:Value)(w:ak)(h:bH w fb d lk nb sb sv)(hhi:d.fuse<=9223372036854775807)(hdn:(gY d).down=false)
  (hS:uU sv S w) (hSl:S.length<=1099511627776) (hne:sv.ownBlock≠some fb/\sv.ownBlock≠some nb/\fb≠nb) (hnb:nb<w.heap.size)
  (hen:∀(w:ak) (args:Array Value),(callFunc fn args).run Tryz.prog w=.ok (.enter fn args) w)
  (hcall:∀w2,bH w2 fb (gY d) lk nb sb sv->aW (fun k=>k=fb) w w2->Calls Tryz.prog fn (#[.string data]++cap) w2 (fun e w'=>e=.returned (.tuple #[])/\M w'/\aW (fun k=>k=nb) w2 w'))
  (hM:∀w w':ak,M w->w'.heap[nb]?=w.heap[nb]?->M w'):
  Calls Tryz.prog 75 #[.pointer (some ⟨fb,0,none⟩),.agg #[.func (.func fn) #[] cap,.string data,.bool cuts]] w fun e w'=>∃sv',e=.returned .nilIface/\bH w' fb (gY d) lk nb sb sv'/\M w'/\uU sv' (S++[⟨fn,cap,data,cuts⟩]) w'/\aW (fun k=>k=fb\/k=nb\/sv.ownBlock=some k) w w'/\adi sv sv' w:=by
 have HR:Hid (bH (w.alloc (.cells #[.func (.func fn) #[] cap,.string data,.bool cuts] 120)) fb d lk nb sb sv):=(bC w _ fb h.lt).trans h;have HC:Hid ((w.alloc (.cells #[.func (.func fn) #[] cap,.string data,.bool cuts] 120)).heap[w.heap.size]?=some (.cells #[.func (.func fn) #[] cap,.string data,.bool cuts] 120 (0,0))):=bq _ _ _ rfl;have HT:Hid (aW (fun k=>k=fb) w (w.alloc (.cells #[.func (.func fn) #[] cap,.string data,.bool cuts] 120))):=aW.of_below _ ((ay _ _).alloc (ai _) _);have hlt:=h.lt;have HZ:Hid ((w.alloc (.cells #[.func (.func fn) #[] cap,.string data,.bool cuts] 120)).heap.size=w.heap.size+1):=bO _ _;have HS:=aV hS;obtain⟨asv,cs,hform⟩:=hS.form;subst hform;have HCALL:=aV hcall;have HMK:=aV hM;have HEN:=aV hen
 have hinf:(Tryz.prog.info? 120).map (fun i=>(i.size,i.bytes,i.zero))=some (3,32,some (.agg #[.nilFunc,.string ⟨#[]⟩,.bool false])):=dD
 obtain⟨ti,hti,htj⟩:=bA.1 hinf;simp only[Prod.mk.injEq] at htj;have HTI:=aV (aO hti (aO htj.1 (aO htj.2.1 htj.2.2)));clear h hS hcall hM hen hinf hti htj
 go_enter Tryz.func75,Tryz.ntmps75
 go_wp2_with fail
 generalize w.alloc (.cells #[.func (.func fn) #[] cap,.string data,.bool cuts] 120)=w1 at*;refine(JS d fb lk nb sb _ w1 HR.out hhi).mono ?_;rintro e w2 ⟨rfl,hr2,ht2⟩;rw[hdn];have HC2:Hid (w2.heap[w.heap.size]?=some (.cells #[.func (.func fn) #[] cap,.string data,.bool cuts] 120 (0,0))):=(ht2.block _ (by rw[HZ.out];omega) aJ).trans HC.out;have HR2:=aV hr2;have HT2:Hid (aW (fun k=>k=fb) w w2):=HT.out.trans ht2 (fun i hi=>aK hi)
 have hsz2:w.heap.size<w2.heap.size:=by have:=ht2.size;rw[HZ.out] at this;omega
 have o0:w2.cell? ⟨w.heap.size,0,none⟩=some (.func (.func fn) #[] cap):=by rw[aj _ _ _ _ _ _ HC2.out];rfl
 have o1:w2.cell? ⟨w.heap.size,1,none⟩=some (.string data):=by rw[aj _ _ _ _ _ _ HC2.out];rfl
 clear hr2 ht2 HC HR HT
 go_wp2_with fail
 rw[HEN.out,Oper.upon_enter];refine(HCALL.out w2 HR2.out HT2.out).mono ?_;rintro e w3 ⟨rfl,hm3,ht3⟩;have HC3:Hid (w3.heap[w.heap.size]?=some (.cells #[.func (.func fn) #[] cap,.string data,.bool cuts] 120 (0,0))):=(ht3.block _ hsz2 aJ).trans HC2.out;have HR3:Hid (bH w3 fb (gY d) lk nb sb (.slice asv S.length cs)):=(ht3.block fb HR2.out.lt hne.2.2).trans HR2.out;have HT3:Hid (aW (fun k=>k=fb\/k=nb) w w3):=(HT2.out.mono (fun k hk=>aK hk)).trans ht3 (fun i hi=>aK (aP hi));have HM3:=aV hm3
 have p0:w3.cell? ⟨w.heap.size,0,none⟩=some (.func (.func fn) #[] cap):=by rw[aj _ _ _ _ _ _ HC3.out];rfl
 have p1:w3.cell? ⟨w.heap.size,1,none⟩=some (.string data):=by rw[aj _ _ _ _ _ _ HC3.out];rfl
 have p2:w3.cell? ⟨w.heap.size,2,none⟩=some (.bool cuts):=by rw[aj _ _ _ _ _ _ HC3.out];rfl
 have c5:w3.cell? ⟨fb,5,none⟩=some (.slice asv S.length cs):=by rw[aj _ _ _ _ _ _ HR3.out];rfl
 have f5:w3.frozen? ⟨fb,5,none⟩=false:=aD _ _ _ _ _ HR3.out;have HS3:Hid (uU (.slice asv S.length cs) S w3):=HS.out.keep (fun k hk=>HT3.out.block k (HS.out.lt k hk) (fun e=>by rcases e with e|e;exact hne.1 (by rw[hk,e]);exact hne.2.1 (by rw[hk,e])));clear hm3 ht3 HC2 HR2 HT2 o0 o1 HS HCALL
 go_wp2_with fail
 have nfb5:some fb≠(Value.slice asv S.length cs).ownBlock:=fun e=>hne.1 e.symm
 have hfb5:fb<w3.heap.size:=HR3.out.lt;have hop5:w.heap.size<w3.heap.size:=aG p0
 go_region_law (refine step_append_lies _ rfl (.tmp 17) (.tmp 19) 93 rfl 0 120 ti (.agg #[.nilFunc,.string ⟨#[]⟩,.bool false]) 3 32 Tryz.underlying93 HTI.out.1 HTI.out.2.2.2 HTI.out.2.1 HTI.out.2.2.1 rfl bS _ S.length (sj S) rfl (by exact(HS3.out.keep (fun k hk=>bC w3.drew _ k (HS3.out.lt k hk))).own) ⟨w3.heap.size,0,none⟩ 1 1 [.func (.func fn) #[] cap,.string data,.bool cuts] rfl rfl (by exact ZH w3.drew _ _) (by intro u hu;simp at hu;rcases hu with rfl|rfl|rfl<;>rfl) bS (by unfold maxLen;omega) aJ (aS _) _ rfl ?_;intro g6 cap6 w6 hv6 hg6 hat6 hlt6;have hrow6:w6.heap[fb]?=w3.heap[fb]?:=(hg6.block fb (by simp;omega) nfb5).trans (bC w3.drew _ fb hfb5);have c56:w6.cell? ⟨fb,5,none⟩=some (.slice asv S.length cs):=(aF (w:=w3) (a:=⟨fb,5,none⟩) hrow6).trans c5;have f56:w6.frozen? ⟨fb,5,none⟩=false:=(World.frozen?_of_block (w:=w3) (a:=⟨fb,5,none⟩) hrow6).trans f5)
 all_goals
  have hgb:∀k,k<w3.heap.size->some k≠(Value.slice asv S.length cs).ownBlock->w6.heap[k]?=w3.heap[k]?:=fun k hk hn=>(hg6.block k (by simp;omega) hn).trans (bC w3.drew _ k hk)
  have hgf:g6≠fb:=by
   rcases hat6 with e|e
   ·intro e2;exact hne.1 (by rw[<-e2];exact e)
   rw[e];simp;omega
  have HO:Hid (uU (.slice (some ⟨g6,0,none⟩) (S.length+1) cap6) (S++[⟨fn,cap,data,cuts⟩]) (w6.setCell ⟨fb,5,none⟩ (.slice (some ⟨g6,0,none⟩) (S.length+1) cap6))):=by
   have h1:uU (.slice (some ⟨g6,0,none⟩) (S.length+1) cap6) (S++[⟨fn,cap,data,cuts⟩]) w6:=⟨by rw[aI,KX];exact hv6⟩;exact h1.keep (fun k hk=>au _ _ _ _ (by have e:g6=k:=ax hk;subst e;exact hgf))
  have HR7:Hid (bH (w6.setCell ⟨fb,5,none⟩ (.slice (some ⟨g6,0,none⟩) (S.length+1) cap6)) fb (gY d) lk nb sb (.slice (some ⟨g6,0,none⟩) (S.length+1) cap6)):=bH.setSince (sv:=.slice asv S.length cs) (hrow6.trans HR3.out) _;have HM7:Hid (M (w6.setCell ⟨fb,5,none⟩ (.slice (some ⟨g6,0,none⟩) (S.length+1) cap6))):=HMK.out _ _ HM3.out (by rw[au _ _ _ _ (fun e=>hne.2.2 e.symm)];exact hgb nb (aB hnb HT3.out.size) (fun e=>hne.2.1 e.symm));have HT6:Hid (aW (fun k=>k=fb\/k=nb\/(Value.slice asv S.length cs).ownBlock=some k) w w6):=(HT3.out.mono (fun k hk=>by rcases hk with e|e;exact aK e;exact aP (aK e))).trans (G:=fun k=>(Value.slice asv S.length cs).ownBlock=some k) ⟨hg6.os,hg6.output,by have:=hg6.size;simp at this;omega,fun k hk hn=>hgb k hk (fun e=>hn e.symm)⟩ (fun i hi=>aK (aP (aP hi)));have HT7:Hid (aW (fun k=>k=fb\/k=nb\/(Value.slice asv S.length cs).ownBlock=some k) w (w6.setCell ⟨fb,5,none⟩ (.slice (some ⟨g6,0,none⟩) (S.length+1) cap6))):=HT6.out.setCell ⟨fb,5,none⟩ _ (aK (aK rfl))
  have HL7:Hid (adi (.slice asv S.length cs) (.slice (some ⟨g6,0,none⟩) (S.length+1) cap6) w):=fun k hk=>by
   have e:g6=k:=ax hk;subst e
   rcases hat6 with e2|e2
   ·exact aK e2
   right;rw[e2];have:=HT3.out.size;simp;omega
  clear hgb hv6 hg6 hat6 hlt6 hrow6 c56 f56 c5 f5 p0 p1 p2 hgf HR3 HT3 HM3 HS3 HC3 HT6;generalize w6.setCell ⟨fb,5,none⟩ (.slice (some ⟨g6,0,none⟩) (S.length+1) cap6)=w7 at*
  go_wp2
  go_ret;exact⟨_,rfl,HR7.out,HM7.out,HO.out,HT7.out,HL7.out⟩
theorem VS(w:ak)(args:Array Value):(callFunc 76 args).run Tryz.prog w=.ok (.enter 76 args) w:=dD
theorem Sn(w:ak)(args:Array Value):(callFunc 303 args).run Tryz.prog w=.ok (.enter 303 args) w:=dD
theorem Sv(w:ak)(args:Array Value):(callFunc 252 args).run Tryz.prog w=.ok (.enter 252 args) w:=dD
theorem Sq(w:ak)(args:Array Value):(callFunc 126 args).run Tryz.prog w=.ok (.enter 126 args) w:=dD
theorem dF.mono{m:Nat}(h:dF w b n l)(hm:n<=m):dF w b m l:=by
 obtain⟨D,⟨es,clock,hb,F,hs,hD⟩,hh⟩:=h;exact⟨D,⟨es,clock,hb,F,aC hs hm,hD⟩,hh⟩
def kL(fb:Nat)(o:lG)(w:ak)(k:jB):Prop:=
 ∃bf bn,w.cell? ⟨bf,0,none⟩=some (.pointer (some ⟨fb,0,none⟩))/\w.cell? ⟨bn,0,none⟩=some (.string o.name)/\
  ((o.kind=1/\k=⟨76,#[.pointer (some ⟨bf,0,none⟩),.pointer (some ⟨bn,0,none⟩)],o.data,true⟩)\/
   (o.kind=2/\k=⟨303,#[.pointer (some ⟨bf,0,none⟩),.pointer (some ⟨bn,0,none⟩)],o.data,true⟩)\/
   (o.kind=3/\∃bt,w.cell? ⟨bt,0,none⟩=some (.string o.data)/\k=⟨252,#[.pointer (some ⟨bf,0,none⟩),.pointer (some ⟨bn,0,none⟩),.pointer (some ⟨bt,0,none⟩)],⟨#[]⟩,false⟩)\/
   (o.kind=4/\k=⟨126,#[.pointer (some ⟨bf,0,none⟩),.pointer (some ⟨bn,0,none⟩)],⟨#[]⟩,false⟩))
def lT(k:jB)(b:Nat):Prop:=Value.pointer (some ⟨b,0,none⟩)∈k.cap.toList
variable {o:lG}{k:jB}
theorem kL.keep(h:kL fb o w k)(hb:∀b,lT k b->w'.heap[b]?=w.heap[b]?):kL fb o w' k:=by
 obtain⟨bf,bn,h1,h2,h3⟩:=h
 have e:∀b,lT k b->w'.cell? ⟨b,0,none⟩=w.cell? ⟨b,0,none⟩:=fun b hk=>aF (w:=w) (a:=⟨b,0,none⟩) (hb b hk)
 refine⟨bf,bn,?_,?_,?_⟩
 ·rw[e bf (by rcases h3 with ⟨_,rfl⟩|⟨_,rfl⟩|⟨_,_,_,rfl⟩|⟨_,rfl⟩<;>simp[lT])];exact h1
 ·rw[e bn (by rcases h3 with ⟨_,rfl⟩|⟨_,rfl⟩|⟨_,_,_,rfl⟩|⟨_,rfl⟩<;>simp[lT])];exact h2
 rcases h3 with h|h|⟨hk,bt,h4,h5⟩|h
 ·exact aK h
 ·exact aP (aK h)
 ·exact aP (aP (aK ⟨hk,bt,by rw[e bt (by rw[h5];simp[lT])];exact h4,h5⟩))
 exact aP (aP (aP h))
theorem kL.box_lt(h:kL fb o w k)(b:Nat)(hb:lT k b):b<w.heap.size:=by
 obtain⟨bf,bn,h1,h2,h3⟩:=h;have l1:=aG h1;have l2:=aG h2
 rcases h3 with ⟨_,rfl⟩|⟨_,rfl⟩|⟨_,bt,h4,rfl⟩|⟨_,rfl⟩
 ·simp[lT] at hb;rcases hb with rfl|rfl<;>assumption
 ·simp[lT] at hb;rcases hb with rfl|rfl<;>assumption
 ·have l3:=aG h4
  simp[lT] at hb;rcases hb with rfl|rfl|rfl<;>assumption
 simp[lT] at hb;rcases hb with rfl|rfl<;>assumption
theorem kL.enters(h:kL fb o w k):∀(w:ak) (args:Array Value),(callFunc k.fn args).run Tryz.prog w=.ok (.enter k.fn args) w:=by
 obtain⟨bf,bn,h1,h2,h3⟩:=h
 rcases h3 with ⟨_,rfl⟩|⟨_,rfl⟩|⟨_,bt,h4,rfl⟩|⟨_,rfl⟩
 ·exact VS
 ·exact Sn
 ·exact Sv
 exact Sq
def wh(o:lG)(part:ah):lG:=if o.kind<=2 then {o with data:=part} else o
theorem kL.call(h:kL fb o w k)(part:ah)(l:List bP)(d:dX)(lk:Int)(nb sb n:Nat)(sv:Value)(hr:bH w fb d lk nb sb sv)(hm:dF w nb n l)(hroom:n<maxLen)(hne:fb≠nb)(hbox:∀b,lT k b->b≠nb)
  (hn:o.name.size<=maxLen) (hn2:o.data.size<=1099511627776) (hp:part.size<=1099511627776) (hdt:(fZ l o.name).size<=1099511627776):
  Calls Tryz.prog k.fn (#[.string part]++k.cap) w fun e w'=>e=.returned (.tuple #[])/\dF w' nb (n+1) (fC l (wh o part))/\aW (fun k=>k=nb) w w':=by
 obtain⟨bf,bn,h1,h2,h3⟩:=h
 rcases h3 with ⟨hk,rfl⟩|⟨hk,rfl⟩|⟨hk,bt,h4,rfl⟩|⟨hk,rfl⟩
 ·rw[wh,aH aJ,fC,aH hk];exact Sk o.name part hn l d fb lk nb sb n sv bf bn w hr hm hroom h1 h2
 ·rw[wh,aH aJ,fC,aA (by simp only;omega),aH hk];exact Qf o.name part hn l hp hdt d fb lk nb sb n sv bf bn w hr hm hroom h1 h2
 ·rw[wh,aA aJ,fC,aA aJ,aA aJ,aH hk];exact Qh o.name o.data part hn (aC hn2 bS) l d fb lk nb sb n sv bf bn bt w hr hm hroom ⟨hne,hbox bf (by simp[lT]),hbox bn (by simp[lT]),hbox bt (by simp[lT])⟩ h1 h2 h4
 rw[wh,aA aJ,fC,aA aJ,aA aJ,aA aJ];exact(Qg o.name part hn l d fb lk nb sb n sv bf bn w hr hm h1 h2).mono (fun e w' ⟨a,b,c⟩=>⟨a,b.mono (fH _),c⟩)
def FX(no:Option Value)(vD:Value)(l:List bP)(o:lG)(S:List jB)(d:dX)(fb nb sb n:Nat)(sv:Value)(w:ak)(e:Ending)(w':ak):Prop:=
 aW (fun k=>k=fb\/k=nb\/sv.ownBlock=some k) w w'/\
 ((∃v,no=some v/\e=.returned v/\bH w' fb d 0 nb sb sv/\dF w' nb n l/\uU sv S w')\/
  (no=none/\(gY d).down=true/\e=.returned vD/\bH w' fb (gY d) 0 nb sb sv/\dF w' nb n l/\uU sv S w')\/
  (no=none/\(gY d).down=false/\e=.returned .nilIface/\∃sv' k,bH w' fb (gY d) 0 nb sb sv'/\dF w' nb (n+1) (fC l o)/\uU sv' (S++[k]) w'/\kL fb o w' k/\(∀b,lT k b->w.heap.size<=b/\sv'.ownBlock≠some b)/\adi sv sv' w))
def zJ(k:jB)(o:lG)(vD:Value)(l:List bP)(S:List jB)(d:dX)(fb:Nat)(lk:Int)(nb sb n:Nat)(sv:Value)(w:ak)(e:Ending)(w':ak):Prop:=
 aW (fun k=>k=fb\/k=nb\/sv.ownBlock=some k) w w'/\
 (((gY d).down=true/\e=.returned vD/\bH w' fb (gY d) lk nb sb sv/\dF w' nb n l/\uU sv S w')\/
  ((gY d).down=false/\e=.returned .nilIface/\∃sv',bH w' fb (gY d) lk nb sb sv'/\dF w' nb (n+1) (fC l o)/\uU sv' (S++[k]) w'/\kL fb o w' k/\(∀b,lT k b->sv'.ownBlock≠some b)/\adi sv sv' w))
variable {vD:Value}{S:List jB}{e:Ending}
theorem zJ.ret(h:zJ k o vD l S d fb lk nb sb n sv w e w'):∃v,e=.returned v:=by
 rcases h.2 with ⟨_,e,_⟩|⟨_,e,_⟩
 ·exact⟨_,e⟩
 exact⟨_,e⟩
theorem zJ.row(h:zJ k o vD l S d fb lk nb sb n sv w e w'):∃sv',bH w' fb (gY d) lk nb sb sv':=by
 rcases h.2 with ⟨_,_,h,_⟩|⟨_,_,sv',h,_⟩
 ·exact⟨_,h⟩
 exact⟨_,h⟩
theorem Jq{w5 w6:ak}{no:Option Value}(hno:no=none)(hfb:fb<w.heap.size)(ht5:aW (fun k=>k=fb) w w5)(hb:∀b,lT k b->w.heap.size<=b)(hp:zJ k o vD l S d fb 1 nb sb n sv w5 e w6)(hne:sv.ownBlock≠some fb/\sv.ownBlock≠some nb/\fb≠nb):
  FX no vD l o S d fb nb sb n sv w e (w6.setCell ⟨fb,0,none⟩ (.int .i32 0)):=by
 obtain⟨h1,h2⟩:=hp;have hsz:=ht5.size;refine⟨((ht5.mono (fun _ hk=>aK hk)).trans h1 (fun i hi=>aK hi)).setCell ⟨fb,0,none⟩ _ (aK (aK rfl)),aP ?_⟩
 rcases h2 with ⟨hd,rfl,hr,hm,ho⟩|⟨hd,rfl,sv',hr,hm,ho,ht,hx,hl⟩
 ·exact aK ⟨hno,hd,rfl,hr.setLock 0,hm.keep (au _ _ _ _ (fun e=>hne.2.2 e.symm)),ho.keep (fun j hj=>au _ _ _ _ (fun e=>hne.1 (by rw[hj,e])))⟩
 refine aP ⟨hno,hd,rfl,sv',k,hr.setLock 0,hm.keep (au _ _ _ _ (fun e=>hne.2.2 e.symm)),ho.keep (fun j hj=>au _ _ _ _ (fun e=>?_)),ht.keep (fun b hk=>au _ _ _ _ (fun e=>?_)),fun b hk=>⟨hb b hk,hx b hk⟩,fun j hj=>?_⟩
 ·rcases hl j hj with q|q
  ·exact hne.1 (by rw[q,e])
  rw[e] at q;simp only at q;omega
 ·have:=hb b hk;rw[e] at this;simp only at this;omega
 rcases hl j hj with q|q
 ·exact aK q
 exact aP aJ
theorem xA(k:jB)(o:lG)(hdat:o.kind<=2->k.data=o.data)(S:List jB)(vD:Value)(l:List bP)(d:dX)(fb:Nat)(lk:Int)(nb sb n:Nat)(sv:Value)(w:ak)(h:bH w fb d lk nb sb sv)(hm:dF w nb n l)(hhi:d.fuse<=9223372036854775807)
  (hS:uU sv S w) (hSl:S.length<=1099511627776) (hne:sv.ownBlock≠some fb/\sv.ownBlock≠some nb/\fb≠nb) (hk:kL fb o w k) (hbox:∀b,lT k b->b≠fb/\b≠nb/\sv.ownBlock≠some b) (hroom:n<maxLen)
  (hn:o.name.size<=maxLen) (hn2:o.data.size<=1099511627776) (hp:k.data.size<=1099511627776) (hdt:(fZ l o.name).size<=1099511627776)
  (hv:w.cell? ⟨3,0,none⟩=some vD) (hg:3≠fb):
  Calls Tryz.prog 75 #[.pointer (some ⟨fb,0,none⟩),.agg #[.func (.func k.fn) #[] k.cap,.string k.data,.bool k.cuts]] w (zJ k o vD l S d fb lk nb sb n sv w):=by
 by_cases hdn:(gY d).down=true
 ·refine(QH (.func (.func k.fn) #[] k.cap) k.data k.cuts vD d fb lk nb sb sv w h hhi hdn hv hg).mono ?_;rintro e w' ⟨rfl,h1,h2⟩;exact⟨h2.mono (fun _ hk=>aK hk),aK ⟨hdn,rfl,h1,hm.keep (h2.block nb hm.lt (fun e=>hne.2.2 e.symm)),hS.keep (fun j hj=>h2.block j (hS.lt j hj) (fun e=>hne.1 (by rw[hj,e])))⟩⟩
 have hdn2:(gY d).down=false:=by simpa using hdn
 refine(TS k.fn k.cap k.data k.cuts S (fun w=>dF w nb (n+1) (fC l o)) d fb lk nb sb sv w h hhi hdn2 hS hSl hne hm.lt hk.enters ?_ (fun w w' a b=>a.keep b)).mono ?_
 ·intro w2 hr2 ht2;have hk2:=hk.keep (w':=w2) (fun b hb=>ht2.block b (hk.box_lt b hb) (hbox b hb).1);have:=hk2.call k.data l (gY d) lk nb sb n sv hr2 (hm.keep (ht2.block nb hm.lt (fun e=>hne.2.2 e.symm))) hroom hne.2.2 (fun b hb=>(hbox b hb).2.1) hn hn2 hp hdt
  have e1:wh o k.data=o:=by
   unfold wh
   split
   ·rw[hdat (by assumption)]
   rfl
  rw[e1] at this;exact this
 rintro e w' ⟨sv',rfl,h1,h2,h3,h4,h5⟩;refine⟨h4,aP ⟨hdn2,rfl,sv',h1,h2,h3,hk.keep (fun b hb=>h4.block b (hk.box_lt b hb) ?_),fun b hb e=>?_,h5⟩⟩
 ·rintro (e|e|e)
  ·exact(hbox b hb).1 e
  ·exact(hbox b hb).2.1 e
  exact(hbox b hb).2.2 e
 rcases h5 b e with e|e
 ·exact(hbox b hb).2.2 e
 have:=hk.box_lt b hb;omega
end
end Go.Proofs.YthhbpebihgjpjaaGreatDoor
