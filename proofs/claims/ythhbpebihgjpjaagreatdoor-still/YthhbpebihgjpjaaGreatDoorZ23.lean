import Derived.Test.YthhbpebihgjpjaaGreatDoorZ18
import Derived.Shelf.SlMaps.Clone
namespace Go.Proofs.YthhbpebihgjpjaaGreatDoor
set_option maxRecDepth 1000000
set_option maxHeartbeats 20000000
set_option linter.all false
section
open Go.RowKit Go.MuLone Go.Maps
theorem NT(b:Nat)(es:Array MapEntry)(clock:Nat)(w:aj)(hb:w.heap[b]?=some (.map es clock)):
  Calls Tryz.prog 60 #[.map (some b)] w fun e w'=>e=.returned (.map (some w.heap.size))/\w'=w.alloc (.map es clock):=by
 have hq:=fun w=>run_eql_map_nil_sl (P:=Tryz.prog) w 85 _ _ (some b) Tryz.underlying85
 go_enter Tryz.func60,Tryz.ntmps60
 go_wp2
 rw[run_callFunc_extern Tryz.func96 (by kernel_rfl) (by kernel_rfl) (by kernel_rfl) (e:=Extern.MapsClone.clone) (by kernel_rfl),run_maps_clone_sl w 85 hb];simp only[Result.andThen];rw[Oper.upon_value]
 go_wp2
 rw[run_typeAssert_map_sl _ 85 20 _ _ _ Tryz.underlying85];simp only[Result.andThen];rw[Oper.upon_value]
 go_wp2
 go_ret;exact⟨rfl,rfl⟩
variable {w:aj}{b n:Nat}{l:List bL}
theorem dw.cloned(h:dw w b n l):∃es clock,w.heap[b]?=some (.map es clock)/\dw (w.alloc (.map es clock)) w.heap.size n l:=by
 obtain⟨D,⟨es,clock,hb,r⟩,hh⟩:=h;exact⟨es,clock,hb,D,⟨es,clock,(MapKept.heap_alloc w _).1,r⟩,hh⟩
variable {fb nb sb:Nat}{d:dQ}{lk:Int}{sv:Value}
theorem bC.setSafe(h:bC w fb d lk nb sb sv)(x:Nat):bC (w.setCell ⟨fb,4,none⟩ (.map (some x))) fb d lk nb x sv:=by
 unfold bC;rw[xY h];rfl
theorem bC.setSince(h:bC w fb d lk nb sb sv)(x:Value):bC (w.setCell ⟨fb,5,none⟩ x) fb d lk nb sb x:=by
 unfold bC;rw[xY h];rfl
theorem bC.setNow(h:bC w fb d lk nb sb sv)(x:Nat):bC (w.setCell ⟨fb,3,none⟩ (.map (some x))) fb d lk x sb sv:=by
 unfold bC;rw[xY h];rfl
theorem qL(l:List bL)(d:dQ)(fb:Nat)(lk:Int)(nb sb n:Nat)(sv:Value)(w:aj)(h:bC w fb d lk nb sb sv)(hm:dw w nb n l)(hnb:nb≠fb):
  Calls Tryz.prog 61 #[.pointer (some ⟨fb,0,none⟩)] w fun e w'=>e=.returned (.tuple #[])/\bC w' fb d lk nb w.heap.size (.slice none 0 0)/\dw w' nb n l/\dw w' w.heap.size n l/\aQ (fun k=>k=fb) w w':=by
 have c3:w.cell? ⟨fb,3,none⟩=some (.map (some nb)):=by rw[bZ h];rfl
 have hfb:=h.lt;obtain⟨es,clock,hb,hc⟩:=hm.cloned;have HC:=aP hc;have HN:Hid (dw (w.alloc (.map es clock)) nb n l):=hm.keep (aZ _ _ _ hm.lt);have HR:Hid (bC (w.alloc (.map es clock)) fb d lk nb sb sv):=(aZ w _ fb hfb).trans h;have HT:Hid (aQ (fun k=>k=fb) w (w.alloc (.map es clock))):=aQ.of_below _ ((au _ _).alloc (ai _) _);clear h hm hc
 go_enter Tryz.func61,Tryz.ntmps61
 go_wp2_with fail
 refine(NT nb es clock w hb).mono ?_;rintro e w3 ⟨rfl,hw3⟩;rw[<-hw3] at HC HN HR HT;obtain⟨z,hz⟩:∃z,z=w.heap.size:=⟨_,rfl⟩;rw[<-hz] at HC⊢
 have HZ:Hid (z≠fb):=by show _≠_;omega
 have c4:w3.cell? ⟨fb,4,none⟩=some (.map (some sb)):=by rw[bZ HR.out];rfl
 have f4:w3.frozen? ⟨fb,4,none⟩=false:=iG HR.out;obtain⟨cs5,hc5⟩:∃u,u=sv:=⟨_,rfl⟩
 have c5:w3.cell? ⟨fb,5,none⟩=some sv:=by rw[bZ HR.out];rfl
 have f5:w3.frozen? ⟨fb,5,none⟩=false:=iG HR.out
 have HX:Hid (bC ((w3.setCell ⟨fb,4,none⟩ (.map (some z))).setCell ⟨fb,5,none⟩ (.slice none 0 0)) fb d lk nb z (.slice none 0 0)/\dw ((w3.setCell ⟨fb,4,none⟩ (.map (some z))).setCell ⟨fb,5,none⟩ (.slice none 0 0)) nb n l/\dw ((w3.setCell ⟨fb,4,none⟩ (.map (some z))).setCell ⟨fb,5,none⟩ (.slice none 0 0)) z n l/\aQ (fun k=>k=fb) w ((w3.setCell ⟨fb,4,none⟩ (.map (some z))).setCell ⟨fb,5,none⟩ (.slice none 0 0))):=
  ⟨(HR.out.setSafe z).setSince _,(HN.out.keep (iP hnb)).keep (iP hnb),(HC.out.keep (iP HZ.out)).keep (iP HZ.out),(HT.out.setCell ⟨fb,4,none⟩ _ (aG rfl)).setCell ⟨fb,5,none⟩ _ (aG rfl)⟩
 have HZ2:=aP hz.symm;clear HC HN HR HT hw3 hz hb c3 hc5
 go_wp2
 go_end0
 exact⟨rfl,by rw[HZ2.out];exact HX.out.1,HX.out.2.1,by rw[HZ2.out];exact HX.out.2.2.1,HX.out.2.2.2⟩
def JH(l:List bL)(vD:Value)(d:dQ)(fb nb sb n:Nat)(sv:Value)(w:aj)(e:Ending)(w':aj):Prop:=
 dw w' nb n l/\aQ (fun k=>k=fb) w w'/\
 (((gQ d).down=true/\e=.returned vD/\bC w' fb (gQ d) 0 nb sb sv)\/
  ((gQ d).down=false/\e=.returned .nilIface/\∃z,w.heap.size<=z/\bC w' fb (gQ d) 0 nb z (.slice none 0 0)/\dw w' z n l))
theorem QS(l:List bL)(vD:Value)(d:dQ)(fb:Nat)(nb sb n:Nat)(sv:Value)(w:aj)(h:bC w fb d 0 nb sb sv)(hm:dw w nb n l)(hnb:nb≠fb)(hhi:d.fuse<=9223372036854775807)
  (hv:w.cell? ⟨3,0,none⟩=some vD) (hg:3≠fb):
  Calls Tryz.prog 173 #[.pointer (some ⟨fb,0,none⟩)] w (JH l vD d fb nb sb n sv w):=by
 have HR1:=aP (h.setLock 1);have HT1:Hid (aQ (fun k=>k=fb) w (w.setCell ⟨fb,0,none⟩ (.int .i32 1))):=(aQ.refl _ w).setCell ⟨fb,0,none⟩ _ (aG rfl);have HV0:=aP hv;have HM0:=aP hm
 have h0:w.cell? ⟨fb,0,none⟩=some (.int .i32 0):=by rw[bZ h];rfl
 have f0:w.frozen? ⟨fb,0,none⟩=false:=iG h;clear h hm hv
 go_enter_defers Tryz.func173,Tryz.ntmps173
 go_wp2_with (go_at_call 58;refine(lock_free kg ⟨fb,0,none⟩ _ h0 f0).mono ?_;rintro e w1 ⟨rfl,rfl⟩;refine dI ?_)
 clear h0 f0;generalize w.setCell ⟨fb,0,none⟩ (.int .i32 1)=w1 at*;unfold Hid
 go_wp2_with fail
 refine(JS d fb 1 nb sb sv w1 HR1.out hhi).mono ?_;rintro e w2 ⟨rfl,hr2,ht2⟩;have HT2:Hid (aQ (fun k=>k=fb) w w2):=HT1.out.trans ht2 (fun i hi=>aG hi);have HR2:=aP hr2;have HM2:=aP (HM0.out.keep (HT2.out.block nb HM0.out.lt hnb))
 have hv2:w2.cell? ⟨3,0,none⟩=some vD:=by
  rw[aB (w:=w) (a:=⟨3,0,none⟩) (HT2.out.block _ (aC HV0.out) hg)];exact HV0.out
 clear hr2 ht2 HR1 HT1
 by_cases hdn:(gQ d).down=true
 ·have HX:Hid (∀w',bC w' fb (gQ d) 0 nb sb sv->dw w' nb n l->aQ (fun k=>k=fb) w w'->JH l vD d fb nb sb n sv w (.returned vD) w'):=fun w' a b c=>⟨b,c,aG ⟨hdn,rfl,a⟩⟩
  rw[hdn]
  go_wp2
  refine eY (f:=59) (args:=#[.pointer (some ⟨fb,0,none⟩)]) (by simp) (by simp[go_sem]) ?_;refine(unlock_deferred kg ⟨fb,0,none⟩ .returning _ ?_ ?_).mono ?_;(rw[bZ HR2.out];rfl);(exact iG HR2.out);rintro e u' w'' ⟨rfl,rfl,rfl⟩;refine⟨_,jO rfl _ _ _,?_⟩;exact HX.out _ (HR2.out.setLock 0) (HM2.out.keep (iP hnb)) (HT2.out.setCell ⟨fb,0,none⟩ _ (aG rfl))
 have hdn2:(gQ d).down=false:=by simpa using hdn
 have HX:Hid (∀w' z,w.heap.size<=z->bC w' fb (gQ d) 0 nb z (.slice none 0 0)->dw w' nb n l->dw w' z n l->aQ (fun k=>k=fb) w w'->JH l vD d fb nb sb n sv w (.returned .nilIface) w'):=fun w' z hz a b b2 c=>⟨b,c,aL ⟨hdn2,rfl,z,hz,a,b2⟩⟩
 rw[hdn2]
 go_wp2_with fail
 refine(qL l (gQ d) fb 1 nb sb n sv w2 HR2.out HM2.out hnb).mono ?_;rintro e w3 ⟨rfl,hr3,hm3,hz3,ht3⟩;have HT3:Hid (aQ (fun k=>k=fb) w w3):=HT2.out.trans ht3 (fun i hi=>aG hi);have HR3:=aP hr3;have HM3:=aP (aK hm3 hz3)
 have hzf:w2.heap.size≠fb:=by have:=HR2.out.lt;omega
 have hws:w.heap.size<=w2.heap.size:=HT2.out.size;clear hr3 hm3 hz3 ht3 HR2 HM2 HT2 hv2;have HR2:=HR3
 go_wp2
 refine eY (f:=59) (args:=#[.pointer (some ⟨fb,0,none⟩)]) (by simp) (by simp[go_sem]) ?_;refine(unlock_deferred kg ⟨fb,0,none⟩ .returning _ ?_ ?_).mono ?_;(rw[bZ HR2.out];rfl);(exact iG HR2.out);rintro e u' w'' ⟨rfl,rfl,rfl⟩;refine⟨_,jO rfl _ _ _,?_⟩;exact HX.out _ w2.heap.size hws (HR2.out.setLock 0) (HM3.out.1.keep (iP hnb)) (HM3.out.2.keep (iP hzf)) (HT3.out.setCell ⟨fb,0,none⟩ _ (aG rfl))
theorem QF(fv:Value)(data:ah)(cuts:Bool)(vD:Value)(d:dQ)(fb:Nat)(lk:Int)(nb sb:Nat)(sv:Value)(w:aj)(h:bC w fb d lk nb sb sv)(hhi:d.fuse<=9223372036854775807)(hdn:(gQ d).down=true)
  (hv:w.cell? ⟨3,0,none⟩=some vD) (hg:3≠fb):
  Calls Tryz.prog 75 #[.pointer (some ⟨fb,0,none⟩),.agg #[fv,.string data,.bool cuts]] w fun e w'=>e=.returned vD/\bC w' fb (gQ d) lk nb sb sv/\aQ (fun k=>k=fb) w w':=by
 have HR:Hid (bC (w.alloc (.cells #[fv,.string data,.bool cuts] 120)) fb d lk nb sb sv):=(aZ w _ fb h.lt).trans h;have HT:Hid (aQ (fun k=>k=fb) w (w.alloc (.cells #[fv,.string data,.bool cuts] 120))):=aQ.of_below _ ((au _ _).alloc (ai _) _);have HV:=aP hv;clear h hv
 go_enter Tryz.func75,Tryz.ntmps75
 go_wp2_with fail
 generalize w.alloc (.cells #[fv,.string data,.bool cuts] 120)=w1 at*;refine(JS d fb lk nb sb sv w1 HR.out hhi).mono ?_;rintro e w2 ⟨rfl,hr2,ht2⟩;have HR2:=aP hr2;have HT2:Hid (aQ (fun k=>k=fb) w w2):=HT.out.trans ht2 (fun i hi=>aG hi)
 have hv2:w2.cell? ⟨3,0,none⟩=some vD:=by
  rw[aB (w:=w) (a:=⟨3,0,none⟩) (HT2.out.block _ (aC HV.out) hg)];exact HV.out
 clear hr2 ht2 HR HT;rw[hdn]
 go_wp2
 go_ret;exact⟨rfl,HR2.out,HT2.out⟩
structure jv where
 fn:Nat
 cap:Array Value
 data:ah
 cuts:Bool
def rX(l:List jv):List Value:=l.flatMap fun x=>[.func (.func x.fn) #[] x.cap,.string x.data,.bool x.cuts]
theorem KX(l r:List jv):rX (l++r)=rX l++rX r:=by simp[rX]
structure uS(v:Value)(l:List jv)(w:aj):Prop where
 own:w.ownsRow 0 120 3 v l.length (rX l)
variable {v:Value}
theorem uS.form{l:List jv}(h:uS v l w):∃ao cap,v=.slice ao l.length cap:=by
 obtain⟨_,⟨rfl,h0⟩|⟨g,cap,cur,rfl,_⟩⟩:=h.own
 ·exact⟨none,0,by rw[h0]⟩
 exact⟨_,_,rfl⟩
variable {w':aj}
theorem uS.keep{l:List jv}(h:uS v l w)(hb:∀k,v.ownBlock=some k->w'.heap[k]?=w.heap[k]?):uS v l w':=by
 obtain⟨h1,⟨rfl,h0⟩|⟨g,cap,cur,rfl,hg,hh,r⟩⟩:=h.own
 ·exact⟨⟨h1,aG ⟨rfl,h0⟩⟩⟩
 exact⟨⟨h1,aL ⟨g,cap,cur,rfl,hg,by rw[hb g rfl];exact hh,r⟩⟩⟩
theorem uS.lt{l:List jv}(h:uS v l w)(k:Nat)(hk:v.ownBlock=some k):k<w.heap.size:=by
 obtain⟨h1,⟨rfl,h0⟩|⟨g,cap,cur,rfl,hg,hh,r⟩⟩:=h.own
 ·cases hk
 have e:g=k:=ak hk;subst e
 rcases bR g w.heap.size with c|c
 ·exact c
 rw[eU c] at hh;cases hh
theorem TN(fn:Nat)(cap:Array Value)(data:ah)(cuts:Bool)(S:List jv)(M:aj->Prop)(d:dQ)(fb:Nat)(lk:Int)(nb sb:Nat)(sv:Value)(w:aj)(h:bC w fb d lk nb sb sv)(hhi:d.fuse<=9223372036854775807)(hdn:(gQ d).down=false)
  (hS:uS sv S w) (hSl:S.length<=1099511627776) (hne:sv.ownBlock≠some fb/\sv.ownBlock≠some nb/\fb≠nb) (hnb:nb<w.heap.size)
  (hen:∀(w:aj) (args:Array Value),(callFunc fn args).run Tryz.prog w=.ok (.enter fn args) w)
  (hcall:∀w2,bC w2 fb (gQ d) lk nb sb sv->aQ (fun k=>k=fb) w w2->Calls Tryz.prog fn (#[.string data]++cap) w2 (fun e w'=>e=.returned (.tuple #[])/\M w'/\aQ (fun k=>k=nb) w2 w'))
  (hM:∀w w':aj,M w->w'.heap[nb]?=w.heap[nb]?->M w'):
  Calls Tryz.prog 75 #[.pointer (some ⟨fb,0,none⟩),.agg #[.func (.func fn) #[] cap,.string data,.bool cuts]] w fun e w'=>∃sv',e=.returned .nilIface/\bC w' fb (gQ d) lk nb sb sv'/\M w'/\uS sv' (S++[⟨fn,cap,data,cuts⟩]) w'/\aQ (fun k=>k=fb\/k=nb\/sv.ownBlock=some k) w w'/\adf sv sv' w:=by
 have HR:Hid (bC (w.alloc (.cells #[.func (.func fn) #[] cap,.string data,.bool cuts] 120)) fb d lk nb sb sv):=(aZ w _ fb h.lt).trans h;have HC:Hid ((w.alloc (.cells #[.func (.func fn) #[] cap,.string data,.bool cuts] 120)).heap[w.heap.size]?=some (.cells #[.func (.func fn) #[] cap,.string data,.bool cuts] 120 (0,0))):=aW _ _ _ rfl;have HT:Hid (aQ (fun k=>k=fb) w (w.alloc (.cells #[.func (.func fn) #[] cap,.string data,.bool cuts] 120))):=aQ.of_below _ ((au _ _).alloc (ai _) _);have hlt:=h.lt;have HZ:Hid ((w.alloc (.cells #[.func (.func fn) #[] cap,.string data,.bool cuts] 120)).heap.size=w.heap.size+1):=bJ _ _;have HS:=aP hS;obtain⟨asv,cs,hform⟩:=hS.form;subst hform;have HCALL:=aP hcall;have HMK:=aP hM;have HEN:=aP hen
 have hinf:(Tryz.prog.info? 120).map (fun i=>(i.size,i.bytes,i.zero))=some (3,32,some (.agg #[.nilFunc,.string ⟨#[]⟩,.bool false])):=by kernel_rfl
 obtain⟨ti,hti,htj⟩:=aX.1 hinf;simp only[Prod.mk.injEq] at htj;have HTI:=aP (aK hti (aK htj.1 (aK htj.2.1 htj.2.2)));clear h hS hcall hM hen hinf hti htj
 go_enter Tryz.func75,Tryz.ntmps75
 go_wp2_with fail
 generalize w.alloc (.cells #[.func (.func fn) #[] cap,.string data,.bool cuts] 120)=w1 at*;refine(JS d fb lk nb sb _ w1 HR.out hhi).mono ?_;rintro e w2 ⟨rfl,hr2,ht2⟩;rw[hdn];have HC2:Hid (w2.heap[w.heap.size]?=some (.cells #[.func (.func fn) #[] cap,.string data,.bool cuts] 120 (0,0))):=(ht2.block _ (by rw[HZ.out];omega) (by omega)).trans HC.out;have HR2:=aP hr2;have HT2:Hid (aQ (fun k=>k=fb) w w2):=HT.out.trans ht2 (fun i hi=>aG hi)
 have hsz2:w.heap.size<w2.heap.size:=by have:=ht2.size;rw[HZ.out] at this;omega
 have o0:w2.cell? ⟨w.heap.size,0,none⟩=some (.func (.func fn) #[] cap):=by rw[bZ HC2.out];rfl
 have o1:w2.cell? ⟨w.heap.size,1,none⟩=some (.string data):=by rw[bZ HC2.out];rfl
 clear hr2 ht2 HC HR HT
 go_wp2_with fail
 rw[HEN.out,Oper.upon_enter];refine(HCALL.out w2 HR2.out HT2.out).mono ?_;rintro e w3 ⟨rfl,hm3,ht3⟩;have HC3:Hid (w3.heap[w.heap.size]?=some (.cells #[.func (.func fn) #[] cap,.string data,.bool cuts] 120 (0,0))):=(ht3.block _ hsz2 (by omega)).trans HC2.out;have HR3:Hid (bC w3 fb (gQ d) lk nb sb (.slice asv S.length cs)):=(ht3.block fb HR2.out.lt hne.2.2).trans HR2.out;have HT3:Hid (aQ (fun k=>k=fb\/k=nb) w w3):=(HT2.out.mono (fun k hk=>aG hk)).trans ht3 (fun i hi=>aG (aL hi));have HM3:=aP hm3
 have p0:w3.cell? ⟨w.heap.size,0,none⟩=some (.func (.func fn) #[] cap):=by rw[bZ HC3.out];rfl
 have p1:w3.cell? ⟨w.heap.size,1,none⟩=some (.string data):=by rw[bZ HC3.out];rfl
 have p2:w3.cell? ⟨w.heap.size,2,none⟩=some (.bool cuts):=by rw[bZ HC3.out];rfl
 have c5:w3.cell? ⟨fb,5,none⟩=some (.slice asv S.length cs):=by rw[bZ HR3.out];rfl
 have f5:w3.frozen? ⟨fb,5,none⟩=false:=iG HR3.out;have HS3:Hid (uS (.slice asv S.length cs) S w3):=HS.out.keep (fun k hk=>HT3.out.block k (HS.out.lt k hk) (fun e=>by rcases e with e|e;exact hne.1 (by rw[hk,e]);exact hne.2.1 (by rw[hk,e])));clear hm3 ht3 HC2 HR2 HT2 o0 o1 HS HCALL
 go_wp2_with fail
 have nfb5:some fb≠(Value.slice asv S.length cs).ownBlock:=fun e=>hne.1 e.symm
 have hfb5:fb<w3.heap.size:=HR3.out.lt;have hop5:w.heap.size<w3.heap.size:=aC p0
 go_region_law (refine step_append_lies _ rfl (.tmp 17) (.tmp 19) 93 rfl 0 120 ti (.agg #[.nilFunc,.string ⟨#[]⟩,.bool false]) 3 32 Tryz.underlying93 HTI.out.1 HTI.out.2.2.2 HTI.out.2.1 HTI.out.2.2.1 rfl (by decide) _ S.length (rX S) rfl (by exact(HS3.out.keep (fun k hk=>aZ w3.drew _ k (HS3.out.lt k hk))).own) ⟨w3.heap.size,0,none⟩ 1 1 [.func (.func fn) #[] cap,.string data,.bool cuts] rfl rfl (by exact ZG w3.drew _ _) (by intro u hu;simp at hu;rcases hu with rfl|rfl|rfl<;>rfl) (by decide) (by unfold maxLen;omega) (by omega) (aN _) _ rfl ?_;intro g6 cap6 w6 hv6 hg6 hat6 hlt6;have hrow6:w6.heap[fb]?=w3.heap[fb]?:=(hg6.block fb (by simp;omega) nfb5).trans (aZ w3.drew _ fb hfb5);have c56:w6.cell? ⟨fb,5,none⟩=some (.slice asv S.length cs):=(aB (w:=w3) (a:=⟨fb,5,none⟩) hrow6).trans c5;have f56:w6.frozen? ⟨fb,5,none⟩=false:=(World.frozen?_of_block (w:=w3) (a:=⟨fb,5,none⟩) hrow6).trans f5)
 all_goals
  have hgb:∀k,k<w3.heap.size->some k≠(Value.slice asv S.length cs).ownBlock->w6.heap[k]?=w3.heap[k]?:=fun k hk hn=>(hg6.block k (by simp;omega) hn).trans (aZ w3.drew _ k hk)
  have hgf:g6≠fb:=by
   rcases hat6 with e|e
   ·intro e2;exact hne.1 (by rw[<-e2];exact e)
   rw[e];simp;omega
  have HO:Hid (uS (.slice (some ⟨g6,0,none⟩) (S.length+1) cap6) (S++[⟨fn,cap,data,cuts⟩]) (w6.setCell ⟨fb,5,none⟩ (.slice (some ⟨g6,0,none⟩) (S.length+1) cap6))):=by
   have h1:uS (.slice (some ⟨g6,0,none⟩) (S.length+1) cap6) (S++[⟨fn,cap,data,cuts⟩]) w6:=⟨by rw[aF,KX];exact hv6⟩;exact h1.keep (fun k hk=>iP (by have e:g6=k:=ak hk;subst e;exact hgf))
  have HR7:Hid (bC (w6.setCell ⟨fb,5,none⟩ (.slice (some ⟨g6,0,none⟩) (S.length+1) cap6)) fb (gQ d) lk nb sb (.slice (some ⟨g6,0,none⟩) (S.length+1) cap6)):=bC.setSince (sv:=.slice asv S.length cs) (hrow6.trans HR3.out) _;have HM7:Hid (M (w6.setCell ⟨fb,5,none⟩ (.slice (some ⟨g6,0,none⟩) (S.length+1) cap6))):=HMK.out _ _ HM3.out (by rw[iP (fun e=>hne.2.2 e.symm)];exact hgb nb (ay hnb HT3.out.size) (fun e=>hne.2.1 e.symm));have HT6:Hid (aQ (fun k=>k=fb\/k=nb\/(Value.slice asv S.length cs).ownBlock=some k) w w6):=(HT3.out.mono (fun k hk=>by rcases hk with e|e;exact aG e;exact aL (aG e))).trans (G:=fun k=>(Value.slice asv S.length cs).ownBlock=some k) ⟨hg6.os,hg6.output,by have:=hg6.size;simp at this;omega,fun k hk hn=>hgb k hk (fun e=>hn e.symm)⟩ (fun i hi=>aG (aL (aL hi)));have HT7:Hid (aQ (fun k=>k=fb\/k=nb\/(Value.slice asv S.length cs).ownBlock=some k) w (w6.setCell ⟨fb,5,none⟩ (.slice (some ⟨g6,0,none⟩) (S.length+1) cap6))):=HT6.out.setCell ⟨fb,5,none⟩ _ (aG (aG rfl))
  have HL7:Hid (adf (.slice asv S.length cs) (.slice (some ⟨g6,0,none⟩) (S.length+1) cap6) w):=fun k hk=>by
   have e:g6=k:=ak hk;subst e
   rcases hat6 with e2|e2
   ·exact aG e2
   right;rw[e2];have:=HT3.out.size;simp;omega
  clear hgb hv6 hg6 hat6 hlt6 hrow6 c56 f56 c5 f5 p0 p1 p2 hgf HR3 HT3 HM3 HS3 HC3 HT6;generalize w6.setCell ⟨fb,5,none⟩ (.slice (some ⟨g6,0,none⟩) (S.length+1) cap6)=w7 at*
  go_wp2
  go_ret;exact⟨_,rfl,HR7.out,HM7.out,HO.out,HT7.out,HL7.out⟩
theorem VQ(w:aj)(args:Array Value):(callFunc 76 args).run Tryz.prog w=.ok (.enter 76 args) w:=by kernel_rfl
theorem Sk(w:aj)(args:Array Value):(callFunc 303 args).run Tryz.prog w=.ok (.enter 303 args) w:=by kernel_rfl
theorem Sm(w:aj)(args:Array Value):(callFunc 252 args).run Tryz.prog w=.ok (.enter 252 args) w:=by kernel_rfl
theorem Sl(w:aj)(args:Array Value):(callFunc 126 args).run Tryz.prog w=.ok (.enter 126 args) w:=by kernel_rfl
theorem dw.mono{m:Nat}(h:dw w b n l)(hm:n<=m):dw w b m l:=by
 obtain⟨D,⟨es,clock,hb,F,hs,hD⟩,hh⟩:=h;exact⟨D,⟨es,clock,hb,F,aA hs hm,hD⟩,hh⟩
def kH(fb:Nat)(o:lu)(w:aj)(k:jv):Prop:=
 ∃bf bn,w.cell? ⟨bf,0,none⟩=some (.pointer (some ⟨fb,0,none⟩))/\w.cell? ⟨bn,0,none⟩=some (.string o.name)/\
  ((o.kind=1/\k=⟨76,#[.pointer (some ⟨bf,0,none⟩),.pointer (some ⟨bn,0,none⟩)],o.data,true⟩)\/
   (o.kind=2/\k=⟨303,#[.pointer (some ⟨bf,0,none⟩),.pointer (some ⟨bn,0,none⟩)],o.data,true⟩)\/
   (o.kind=3/\∃bt,w.cell? ⟨bt,0,none⟩=some (.string o.data)/\k=⟨252,#[.pointer (some ⟨bf,0,none⟩),.pointer (some ⟨bn,0,none⟩),.pointer (some ⟨bt,0,none⟩)],⟨#[]⟩,false⟩)\/
   (o.kind=4/\k=⟨126,#[.pointer (some ⟨bf,0,none⟩),.pointer (some ⟨bn,0,none⟩)],⟨#[]⟩,false⟩))
def lM(k:jv)(b:Nat):Prop:=Value.pointer (some ⟨b,0,none⟩)∈k.cap.toList
variable {o:lu}{k:jv}
theorem kH.keep(h:kH fb o w k)(hb:∀b,lM k b->w'.heap[b]?=w.heap[b]?):kH fb o w' k:=by
 obtain⟨bf,bn,h1,h2,h3⟩:=h
 have e:∀b,lM k b->w'.cell? ⟨b,0,none⟩=w.cell? ⟨b,0,none⟩:=fun b hk=>aB (w:=w) (a:=⟨b,0,none⟩) (hb b hk)
 refine⟨bf,bn,?_,?_,?_⟩
 ·rw[e bf (by rcases h3 with ⟨_,rfl⟩|⟨_,rfl⟩|⟨_,_,_,rfl⟩|⟨_,rfl⟩<;>simp[lM])];exact h1
 ·rw[e bn (by rcases h3 with ⟨_,rfl⟩|⟨_,rfl⟩|⟨_,_,_,rfl⟩|⟨_,rfl⟩<;>simp[lM])];exact h2
 rcases h3 with h|h|⟨hk,bt,h4,h5⟩|h
 ·exact aG h
 ·exact aL (aG h)
 ·exact aL (aL (aG ⟨hk,bt,by rw[e bt (by rw[h5];simp[lM])];exact h4,h5⟩))
 exact aL (aL (aL h))
theorem kH.box_lt(h:kH fb o w k)(b:Nat)(hb:lM k b):b<w.heap.size:=by
 obtain⟨bf,bn,h1,h2,h3⟩:=h;have l1:=aC h1;have l2:=aC h2
 rcases h3 with ⟨_,rfl⟩|⟨_,rfl⟩|⟨_,bt,h4,rfl⟩|⟨_,rfl⟩
 ·simp[lM] at hb;rcases hb with rfl|rfl<;>assumption
 ·simp[lM] at hb;rcases hb with rfl|rfl<;>assumption
 ·have l3:=aC h4
  simp[lM] at hb;rcases hb with rfl|rfl|rfl<;>assumption
 simp[lM] at hb;rcases hb with rfl|rfl<;>assumption
theorem kH.enters(h:kH fb o w k):∀(w:aj) (args:Array Value),(callFunc k.fn args).run Tryz.prog w=.ok (.enter k.fn args) w:=by
 obtain⟨bf,bn,h1,h2,h3⟩:=h
 rcases h3 with ⟨_,rfl⟩|⟨_,rfl⟩|⟨_,bt,h4,rfl⟩|⟨_,rfl⟩
 ·exact VQ
 ·exact Sk
 ·exact Sm
 exact Sl
def vX(o:lu)(part:ah):lu:=if o.kind<=2 then {o with data:=part} else o
theorem kH.call(h:kH fb o w k)(part:ah)(l:List bL)(d:dQ)(lk:Int)(nb sb n:Nat)(sv:Value)(hr:bC w fb d lk nb sb sv)(hm:dw w nb n l)(hroom:n<maxLen)(hne:fb≠nb)(hbox:∀b,lM k b->b≠nb)
  (hn:o.name.size<=maxLen) (hn2:o.data.size<=1099511627776) (hp:part.size<=1099511627776) (hdt:(fO l o.name).size<=1099511627776):
  Calls Tryz.prog k.fn (#[.string part]++k.cap) w fun e w'=>e=.returned (.tuple #[])/\dw w' nb (n+1) (fe l (vX o part))/\aQ (fun k=>k=nb) w w':=by
 obtain⟨bf,bn,h1,h2,h3⟩:=h
 rcases h3 with ⟨hk,rfl⟩|⟨hk,rfl⟩|⟨hk,bt,h4,rfl⟩|⟨hk,rfl⟩
 ·rw[vX,aD (by omega),fe,aD hk];exact Sg o.name part hn l d fb lk nb sb n sv bf bn w hr hm hroom h1 h2
 ·rw[vX,aD (by omega),fe,ax (by simp only;omega),aD hk];exact Qd o.name part hn l hp hdt d fb lk nb sb n sv bf bn w hr hm hroom h1 h2
 ·rw[vX,ax (by omega),fe,ax (by omega),ax (by omega),aD hk];exact Qf o.name o.data part hn (aA hn2 (by decide)) l d fb lk nb sb n sv bf bn bt w hr hm hroom ⟨hne,hbox bf (by simp[lM]),hbox bn (by simp[lM]),hbox bt (by simp[lM])⟩ h1 h2 h4
 rw[vX,ax (by omega),fe,ax (by omega),ax (by omega),ax (by omega)];exact(Qe o.name part hn l d fb lk nb sb n sv bf bn w hr hm h1 h2).mono (fun e w' ⟨a,b,c⟩=>⟨a,b.mono (fB _),c⟩)
def FV(no:Option Value)(vD:Value)(l:List bL)(o:lu)(S:List jv)(d:dQ)(fb nb sb n:Nat)(sv:Value)(w:aj)(e:Ending)(w':aj):Prop:=
 aQ (fun k=>k=fb\/k=nb\/sv.ownBlock=some k) w w'/\
 ((∃v,no=some v/\e=.returned v/\bC w' fb d 0 nb sb sv/\dw w' nb n l/\uS sv S w')\/
  (no=none/\(gQ d).down=true/\e=.returned vD/\bC w' fb (gQ d) 0 nb sb sv/\dw w' nb n l/\uS sv S w')\/
  (no=none/\(gQ d).down=false/\e=.returned .nilIface/\∃sv' k,bC w' fb (gQ d) 0 nb sb sv'/\dw w' nb (n+1) (fe l o)/\uS sv' (S++[k]) w'/\kH fb o w' k/\(∀b,lM k b->w.heap.size<=b/\sv'.ownBlock≠some b)/\adf sv sv' w))
def zH(k:jv)(o:lu)(vD:Value)(l:List bL)(S:List jv)(d:dQ)(fb:Nat)(lk:Int)(nb sb n:Nat)(sv:Value)(w:aj)(e:Ending)(w':aj):Prop:=
 aQ (fun k=>k=fb\/k=nb\/sv.ownBlock=some k) w w'/\
 (((gQ d).down=true/\e=.returned vD/\bC w' fb (gQ d) lk nb sb sv/\dw w' nb n l/\uS sv S w')\/
  ((gQ d).down=false/\e=.returned .nilIface/\∃sv',bC w' fb (gQ d) lk nb sb sv'/\dw w' nb (n+1) (fe l o)/\uS sv' (S++[k]) w'/\kH fb o w' k/\(∀b,lM k b->sv'.ownBlock≠some b)/\adf sv sv' w))
variable {vD:Value}{S:List jv}{e:Ending}
theorem zH.ret(h:zH k o vD l S d fb lk nb sb n sv w e w'):∃v,e=.returned v:=by
 rcases h.2 with ⟨_,e,_⟩|⟨_,e,_⟩
 ·exact⟨_,e⟩
 exact⟨_,e⟩
theorem zH.row(h:zH k o vD l S d fb lk nb sb n sv w e w'):∃sv',bC w' fb (gQ d) lk nb sb sv':=by
 rcases h.2 with ⟨_,_,h,_⟩|⟨_,_,sv',h,_⟩
 ·exact⟨_,h⟩
 exact⟨_,h⟩
theorem Jo{w5 w6:aj}{no:Option Value}(hno:no=none)(hfb:fb<w.heap.size)(ht5:aQ (fun k=>k=fb) w w5)(hb:∀b,lM k b->w.heap.size<=b)(hp:zH k o vD l S d fb 1 nb sb n sv w5 e w6)(hne:sv.ownBlock≠some fb/\sv.ownBlock≠some nb/\fb≠nb):
  FV no vD l o S d fb nb sb n sv w e (w6.setCell ⟨fb,0,none⟩ (.int .i32 0)):=by
 obtain⟨h1,h2⟩:=hp;have hsz:=ht5.size;refine⟨((ht5.mono (fun _ hk=>aG hk)).trans h1 (fun i hi=>aG hi)).setCell ⟨fb,0,none⟩ _ (aG (aG rfl)),aL ?_⟩
 rcases h2 with ⟨hd,rfl,hr,hm,ho⟩|⟨hd,rfl,sv',hr,hm,ho,ht,hx,hl⟩
 ·exact aG ⟨hno,hd,rfl,hr.setLock 0,hm.keep (iP (fun e=>hne.2.2 e.symm)),ho.keep (fun j hj=>iP (fun e=>hne.1 (by rw[hj,e])))⟩
 refine aL ⟨hno,hd,rfl,sv',k,hr.setLock 0,hm.keep (iP (fun e=>hne.2.2 e.symm)),ho.keep (fun j hj=>iP (fun e=>?_)),ht.keep (fun b hk=>iP (fun e=>?_)),fun b hk=>⟨hb b hk,hx b hk⟩,fun j hj=>?_⟩
 ·rcases hl j hj with q|q
  ·exact hne.1 (by rw[q,e])
  rw[e] at q;simp only at q;omega
 ·have:=hb b hk;rw[e] at this;simp only at this;omega
 rcases hl j hj with q|q
 ·exact aG q
 exact aL (by omega)
theorem xk(k:jv)(o:lu)(hdat:o.kind<=2->k.data=o.data)(S:List jv)(vD:Value)(l:List bL)(d:dQ)(fb:Nat)(lk:Int)(nb sb n:Nat)(sv:Value)(w:aj)(h:bC w fb d lk nb sb sv)(hm:dw w nb n l)(hhi:d.fuse<=9223372036854775807)
  (hS:uS sv S w) (hSl:S.length<=1099511627776) (hne:sv.ownBlock≠some fb/\sv.ownBlock≠some nb/\fb≠nb) (hk:kH fb o w k) (hbox:∀b,lM k b->b≠fb/\b≠nb/\sv.ownBlock≠some b) (hroom:n<maxLen)
  (hn:o.name.size<=maxLen) (hn2:o.data.size<=1099511627776) (hp:k.data.size<=1099511627776) (hdt:(fO l o.name).size<=1099511627776)
  (hv:w.cell? ⟨3,0,none⟩=some vD) (hg:3≠fb):
  Calls Tryz.prog 75 #[.pointer (some ⟨fb,0,none⟩),.agg #[.func (.func k.fn) #[] k.cap,.string k.data,.bool k.cuts]] w (zH k o vD l S d fb lk nb sb n sv w):=by
 by_cases hdn:(gQ d).down=true
 ·refine(QF (.func (.func k.fn) #[] k.cap) k.data k.cuts vD d fb lk nb sb sv w h hhi hdn hv hg).mono ?_;rintro e w' ⟨rfl,h1,h2⟩;exact⟨h2.mono (fun _ hk=>aG hk),aG ⟨hdn,rfl,h1,hm.keep (h2.block nb hm.lt (fun e=>hne.2.2 e.symm)),hS.keep (fun j hj=>h2.block j (hS.lt j hj) (fun e=>hne.1 (by rw[hj,e])))⟩⟩
 have hdn2:(gQ d).down=false:=by simpa using hdn
 refine(TN k.fn k.cap k.data k.cuts S (fun w=>dw w nb (n+1) (fe l o)) d fb lk nb sb sv w h hhi hdn2 hS hSl hne hm.lt hk.enters ?_ (fun w w' a b=>a.keep b)).mono ?_
 ·intro w2 hr2 ht2;have hk2:=hk.keep (w':=w2) (fun b hb=>ht2.block b (hk.box_lt b hb) (hbox b hb).1);have:=hk2.call k.data l (gQ d) lk nb sb n sv hr2 (hm.keep (ht2.block nb hm.lt (fun e=>hne.2.2 e.symm))) hroom hne.2.2 (fun b hb=>(hbox b hb).2.1) hn hn2 hp hdt
  have e1:vX o k.data=o:=by
   unfold vX
   split
   ·rw[hdat (by assumption)]
   rfl
  rw[e1] at this;exact this
 rintro e w' ⟨sv',rfl,h1,h2,h3,h4,h5⟩;refine⟨h4,aL ⟨hdn2,rfl,sv',h1,h2,h3,hk.keep (fun b hb=>h4.block b (hk.box_lt b hb) ?_),fun b hb e=>?_,h5⟩⟩
 ·rintro (e|e|e)
  ·exact(hbox b hb).1 e
  ·exact(hbox b hb).2.1 e
  exact(hbox b hb).2.2 e
 rcases h5 b e with e|e
 ·exact(hbox b hb).2.2 e
 have:=hk.box_lt b hb;omega
