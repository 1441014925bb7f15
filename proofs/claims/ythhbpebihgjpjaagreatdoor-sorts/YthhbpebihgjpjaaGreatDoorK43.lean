import Derived.Test.YthhbpebihgjpjaaGreatDoorK42
import Derived.Test.YthhbpebihgjpjaaGreatDoorK07
import Derived.Test.YthhbpebihgjpjaaGreatDoorK03
namespace Go.Proofs.YthhbpebihgjpjaaGreatDoor
set_option maxRecDepth 1000000

/-- What a manifest that was read keeps to. -/
structure SKept (S : St) : Prop where
  edge : ∀ e ∈ S.edges, e.outs ≠ [] ∧ (∀ x ∈ e.outs, x.size ≤ 32) ∧ ∀ x ∈ depsS e, x.size ≤ 32
  once : (S.edges.flatMap (·.outs)).Nodup
  defs : ∀ x ∈ S.defs, x.size ≤ 32
theorem twiceS_none : ∀ (os M : List ByteArray), twiceS M os = false → os.Nodup ∧ ∀ x ∈ os, x ∉ M
  | [], M, _ => ⟨List.nodup_nil, fun x hx => by cases hx⟩
  | o :: os, M, h => by
    unfold twiceS at h
    rw [Bool.or_eq_false_iff] at h
    have ih := twiceS_none os (o :: M) h.2
    have h1 : o ∉ M := fun q => by rw [mem_memB.2 q] at h; cases h.1
    refine ⟨List.nodup_cons.2 ⟨fun q => ih.2 o q (List.mem_cons_self ..), ih.1⟩, fun x hx => ?_⟩
    rcases List.mem_cons.1 hx with rfl | hx
    · exact h1
    · exact fun q => ih.2 x hx (List.mem_cons_of_mem _ q)
theorem SKept.addEdge {S : St} {outs ins : Secs} {u : ByteArray} {rule : ByteArray} {own : Binds} {ms1 ms2 : List ByteArray} (h : SKept S) (h1 : SecsOk ms1 outs) (h2 : SecsOk ms2 ins) (hb : edgeBad S outs ins u = none) : SKept { S with edges := S.edges ++ [edgeOf outs ins rule own] } := by
  unfold edgeBad at hb
  split at hb
  · cases hb
  · rename_i hc1
    split at hb
    · cases hb
    · split at hb
      · cases hb
      · split at hb
        · cases hb
        · split at hb
          · cases hb
          · rename_i hc5
            have hne : firstS outs ≠ [] := fun e => hc1 (Or.inl e)
            have htw := twiceS_none _ _ (Bool.eq_false_iff.2 hc5)
            refine ⟨fun e he => ?_, ?_, h.defs⟩
            · rcases List.mem_append.1 he with he | he
              · exact h.edge e he
              · obtain rfl := List.mem_singleton.1 he
                refine ⟨fun e => hne (List.append_eq_nil_iff.1 e).1, fun x hx => ?_, fun x hx => ?_⟩
                · rcases List.mem_append.1 (show x ∈ firstS outs ++ behindS outs tBar from hx) with hx | hx
                  · exact firstS_small h1 x hx
                  · exact behindS_small h1 _ x hx
                · rcases List.mem_append.1 (show x ∈ firstS ins ++ (behindS ins tBar ++ behindS ins tBars) from hx) with hx | hx
                  · exact firstS_small h2 x hx
                  · rcases List.mem_append.1 hx with hx | hx
                    · exact behindS_small h2 _ x hx
                    · exact behindS_small h2 _ x hx
            · show ((S.edges ++ [edgeOf outs ins rule own]).flatMap (·.outs)).Nodup
              rw [List.flatMap_append, List.nodup_append]
              refine ⟨h.once, ?_, fun x hx y hy e => ?_⟩
              · simpa [edgeOf] using htw.1
              · subst e
                exact htw.2 x (by simpa [edgeOf] using hy) hx
theorem SKept.stmt {S : St} {no : Nat} {t : ByteArray} {rest : List Line} {S' : St} {rest' : List Line} (hS : SKept S) (h : stmtS S no t rest = .ok (S', rest')) : SKept S' := by
  unfold stmtS at h
  split at h
  · cases h
  · split at h
    · unfold ruleS at h
      split at h
      · cases h
      · split at h
        · cases h
        · split at h
          · cases h
          · split at h
            · cases h
            · split at h
              · cases h
              · split at h
                · cases h
                · injection h with h
                  obtain ⟨rfl, _⟩ := Prod.mk.inj h
                  exact ⟨hS.edge, hS.once, hS.defs⟩
    · split at h
      · unfold buildS at h
        split at h
        · cases h
        · split at h
          · cases h
          · rename_i outs ho
            split at h
            · cases h
            · rename_i ins hi
              split at h
              · cases h
              · rename_i hb
                split at h
                · cases h
                · injection h with h
                  obtain ⟨rfl, _⟩ := Prod.mk.inj h
                  exact hS.addEdge (pathsS_ok ho).1 (pathsS_ok hi).1 hb
      · split at h
        · unfold defaultS at h
          split at h
          · cases h
          · rename_i A hA
            split at h
            · cases h
            · injection h with h
              obtain ⟨rfl, _⟩ := Prod.mk.inj h
              refine ⟨hS.edge, hS.once, fun x hx => ?_⟩
              rcases List.mem_append.1 hx with hx | hx
              · exact hS.defs x hx
              · exact firstS_small (pathsS_ok hA).1 x hx
        · unfold varS at h
          split at h
          · cases h
          · split at h
            · cases h
            · injection h with h
              obtain ⟨rfl, _⟩ := Prod.mk.inj h
              exact ⟨hS.edge, hS.once, hS.defs⟩
theorem SKept.run : ∀ (g : Nat) (S : St) (ls : List Line) (S' : St), SKept S → runS g S ls = .ok S' → SKept S'
  | 0, S, ls, S', hS, h => by injection h with h; subst h; exact hS
  | _ + 1, S, [], S', hS, h => by injection h with h; subst h; exact hS
  | g + 1, S, x :: rest, S', hS, h => by
    unfold runS at h
    split at h
    · cases h
    · rename_i Sr hq
      exact SKept.run g Sr.1 Sr.2 S' (hS.stmt hq) h
theorem kept_of_parse {t : ByteArray} {S : St} {cs : List ByteArray} (h : parseS t = .ok (S, cs)) : SKept S := by
  unfold parseS at h
  split at h
  · cases h
  · split at h
    · cases h
    · rename_i S' hr
      split at h
      · cases h
      · injection h with h
        obtain ⟨rfl, _⟩ := Prod.mk.inj h
        have h0 : SKept St.none := ⟨fun e he => (by cases he), List.nodup_nil, fun x hx => (by cases hx)⟩
        exact SKept.run _ _ _ _ h0 hr
/-- .. and so Order may be asked. -/
theorem good_of_parse {t : ByteArray} {S : St} {cs : List ByteArray} (h : parseS t = .ok (S, cs)) (hS : SOk S 0 []) : SGood S := by
  have hk := kept_of_parse h
  refine ⟨hS.edges, fun e he => ?_, hk.once, by have := hS.defs; omega, hk.defs⟩
  have h1 := hS.edge e he
  have h2 := hk.edge e he
  exact ⟨by have := h1.2.2.1; omega, by have := h1.2.2.2.1; omega, by have := h1.2.2.2.2.2.2.1; omega, by have := h1.2.2.2.2.2.2.2; omega, h2.2.1, h2.2.2⟩
end Go.Proofs.YthhbpebihgjpjaaGreatDoor

namespace Go.Proofs.YthhbpebihgjpjaaGreatDoor
set_option maxRecDepth 1000000

theorem needsS_at {es : List EdgeS} {p : Nat} {e : EdgeS} (h : es[p]? = some e) : (needsS es).getD p [] = needS es e := by
  unfold needsS
  rw [List.getD_eq_getElem?_getD, List.getElem?_map, h]; rfl
theorem needsS_length (es : List EdgeS) : (needsS es).length = es.length := by unfold needsS; simp
theorem mem_needsS {es : List EdgeS} {p q : Nat} (h : p ∈ (needsS es).getD q []) : ∃ e, es[q]? = some e ∧ ∃ x ∈ depsS e, makerS es x = some p := by
  cases he : es[q]? with
  | none =>
    unfold needsS at h
    rw [List.getD_eq_getElem?_getD, List.getElem?_map, he] at h
    cases h
  | some e =>
    rw [needsS_at he] at h
    obtain ⟨x, hx, hm⟩ := List.mem_filterMap.1 h
    exact ⟨e, rfl, x, hx, hm⟩
/-- What holds of the order that is told. -/
structure OrderOk (S : St) (ts : List ByteArray) (o : List Nat) : Prop where
  lt : ∀ p ∈ o, p < S.edges.length
  nd : o.Nodup
  ahead : ∀ i p e, o[i]? = some p → S.edges[p]? = some e → ∀ x ∈ depsS e, ∀ m, makerS S.edges x = some m → m ∈ o.take i
  goals : ∀ x ∈ goalsS S ts, ∃ p, makerS S.edges x = some p ∧ p ∈ o
  want : ∀ p ∈ o, (∃ x ∈ goalsS S ts, makerS S.edges x = some p) ∨ ∃ q ∈ o, ∃ e, S.edges[q]? = some e ∧ ∃ x ∈ depsS e, makerS S.edges x = some p
theorem order_ok {S : St} {ts : List ByteArray} {o : List Nat} (h : orderS S ts = .ok o) : OrderOk S ts o := by
  unfold orderS at h
  split at h
  · rename_i hrun
    have hN := needs_fit S.edges
    have hrun' : runsS (needsS S.edges) (List.range (needsS S.edges).length) (zerosS (needsS S.edges).length) [] = true := by rw [needsS_length]; exact hrun
    obtain ⟨r, hr⟩ := ranked_of_runs hN hrun'
    split at h
    · cases h
    · rename_i o' hw
      injection h with h
      subst h
      rw [← needsS_length S.edges] at hw
      obtain ⟨s', h1, h2, _⟩ := walks_keeps (G := fun p => ∃ x ∈ goalsS S ts, makerS S.edges x = some p) hr (goalsS S ts) _ _ o' (winv_zeros _ hN) (fun x hx p hp => ⟨by rw [needsS_length]; exact makerS_lt hp, x, hx, hp⟩) hw
      refine ⟨fun p hp => ?_, h1.nd, fun i p e hi he x hx m hm => ?_, h2, fun p hp => ?_⟩
      · have h3 := (h1.two p).2 hp
        rcases Nat.lt_or_ge p S.edges.length with c | c
        · exact c
        · rw [List.getD_eq_getElem?_getD, List.getElem?_eq_none (by rw [h1.fits.len, needsS_length]; exact c)] at h3
          cases h3
      · refine h1.ahead i p hi m ?_
        rw [needsS_at he]
        exact List.mem_filterMap.2 ⟨x, hx, hm⟩
      · rcases h1.want p (Or.inl hp) with g | ⟨q, hq, hpq⟩
        · exact Or.inl g
        · refine Or.inr ⟨q, ?_, mem_needsS hpq⟩
          rcases hq with hq | hq
          · exact hq
          · cases hq
  · cases h
end Go.Proofs.YthhbpebihgjpjaaGreatDoor

namespace Go.Proofs.YthhbpebihgjpjaaGreatDoor
open Go.RowKit Go.Maps
set_option maxRecDepth 1000000

theorem text_eq {x y : ByteArray} : (x.toList == y.toList) = decide (x = y) := by
  cases hq : (x.toList == y.toList) with
  | true => exact (decide_eq_true (text_same hq)).symm
  | false => exact (decide_eq_false (fun e => by rw [e] at hq; simp at hq)).symm
set_option maxHeartbeats 2000000 in
theorem khas_any {w : World} {v : Value} {l : List ByteArray} (h : TextsAt w v l) (t : ByteArray) (hl : l.length ≤ 100000000) :
    Calls Tryz.prog 28 #[v, .string t] w fun e w' => e = .returned (.bool (memB t l)) ∧ w' = w := by
  obtain ⟨ao, cap, rfl, hg⟩ := texts_ge h
  have HG : Hid (0 < l.length → ∃ b o, ao = some ⟨b, o, none⟩ ∧ ∀ k s, l[k]? = some s → w.cell? ⟨b, o + k, none⟩ = some (.string s)) := hg
  clear h hg
  generalize hL : l.length = L at *
  have HL : Hid (l.length = L) := hL
  have l0 : (L : Int) ≤ 100000000 := by omega
  clear hL
  go_enter Tryz.func28, Tryz.ntmps28
  go_wp2_with fail
  go_loop [5] (fun i => ∃ j : Nat, i = .int .i64 j ∧ j ≤ L ∧ memB t (l.take j) = false) (fun i => L - (intOf i).toNat)
  case atStart => exact ⟨0, rfl, Nat.zero_le _, rfl⟩
  case round =>
    obtain ⟨j, rfl, hj, hm⟩ := hrel
    have HM : Hid (memB t (l.take j) = false) := hm
    clear hm
    have j0 : (0 : Int) ≤ (j : Int) := by omega
    by_cases hlt : j < L
    · have j1 : (j : Int) < (L : Int) := by omega
      obtain ⟨x, hx⟩ : ∃ x, l[j]? = some x := ⟨l[j]'(by have := HL.out; omega), by simp⟩
      obtain ⟨b, o, rfl, hc⟩ := HG.out (by omega)
      have cx := hc j x hx
      have htk : memB t (l.take (j + 1)) = decide (x = t) := by
        have h1 : l.take (j + 1) = l.take j ++ [x] := by rw [List.take_add_one, hx]; rfl
        have h2 : memB t (l.take j ++ [x]) = (memB t (l.take j) || decide (x = t)) := by unfold memB; simp
        rw [h1, h2, HM.out, Bool.false_or]
      have heq : (x.toList == t.toList) = decide (x = t) := text_eq
      by_cases e : x = t
      · have q : (x.toList == t.toList) = true := by rw [heq]; exact decide_eq_true e
        have HF : Hid (memB t l = true) := mem_memB.2 (by rw [← e]; exact List.mem_of_getElem? hx)
        clear htk heq hc hx e
        go_wp2
        go_ret
        exact ⟨by rw [HF.out]; rfl, rfl⟩
      · have q : (x.toList == t.toList) = false := by rw [heq]; exact decide_eq_false e
        have HN : Hid (memB t (l.take (j + 1)) = false) := by rw [htk]; exact decide_eq_false e
        clear htk heq hc hx e
        go_wp2
        exact ⟨⟨j + 1, by go_num, by omega, HN.out⟩, by simp [intOf]; omega⟩
    · obtain rfl : j = L := by omega
      have HF : Hid (memB t l = false) := by have := HM.out; rw [List.take_of_length_le (Nat.le_of_eq HL.out)] at this; exact this
      go_wp2
      go_ret
      exact ⟨by rw [HF.out]; rfl, rfl⟩
def makerI (es : List EdgeS) (t : ByteArray) : Int := match makerS es t with
  | none => -1
  | some p => (p : Nat)
set_option maxHeartbeats 2000000 in
theorem kmaker_any {w : World} {v : Value} {es : List EdgeS} {cs : List ByteArray} (h : EdgeRowAt w v es cs) (t : ByteArray) (hl : es.length ≤ 64) (hc : cs.length = es.length) (hok : ∀ e ∈ es, e.outs.length ≤ 10000) :
    Calls Tryz.prog 35 #[v, .string t] w fun e w' => e = .returned (.int .i64 (makerI es t)) ∧ w' = w := by
  obtain ⟨ao, cap, hv, _⟩ := id h
  subst hv
  have HROW : Hid (EdgeRowAt w (.slice ao es.length cap) es cs ∧ cs.length = es.length ∧ ∀ e ∈ es, e.outs.length ≤ 10000) := ⟨h, hc, hok⟩
  clear h hc hok
  generalize hL : es.length = L at *
  have HL : Hid (es.length = L) := hL
  have l0 : (L : Int) ≤ 64 := by omega
  clear hL
  go_enter Tryz.func35, Tryz.ntmps35
  go_wp2_with fail
  go_loop [5] (fun i => ∃ j : Nat, i = .int .i64 j ∧ j ≤ L ∧ makerS (es.take j) t = none) (fun i => L - (intOf i).toNat)
  case atStart => exact ⟨0, rfl, Nat.zero_le _, rfl⟩
  case round =>
    obtain ⟨j, rfl, hj, hm⟩ := hrel
    have HM : Hid (makerS (es.take j) t = none) := hm
    clear hm
    have j0 : (0 : Int) ≤ (j : Int) := by omega
    by_cases hlt : j < L
    · have j1 : (j : Int) < (L : Int) := by omega
      obtain ⟨e0, he0⟩ : ∃ e, es[j]? = some e := ⟨es[j]'(by have := HL.out; omega), by simp⟩
      obtain ⟨g, o, aoo, nO, cO, aoi, nI, cI, aom, nM, cM, aor, nR, cR, cm, rfl, ⟨c0, _, _, _, _, _⟩, to', _, _, _, _⟩ := edge_cells HROW.out.1 HL.out (HROW.out.2.1.trans HL.out.symm) he0 (Below.refl _ w)
      have HH : Hid (Calls Tryz.prog 28 #[.slice aoo nO cO, .string t] w fun e w' => e = .returned (.bool (memB t e0.outs)) ∧ w' = w) := khas_any to' t (by have := HROW.out.2.2 e0 (List.mem_of_getElem? he0); omega)
      have htk : es.take (j + 1) = es.take j ++ [e0] := by rw [List.take_add_one, he0]; rfl
      have hlj : (es.take j).length = j := by rw [List.length_take]; have := HL.out; omega
      have hsn : makerS (es.take (j + 1)) t = if memB t e0.outs = true then some j else none := by
        rw [htk, makerS_snoc (fun _ => HM.out), hlj, HM.out]
      have hall : memB t e0.outs = true → makerS es t = some j := fun q => by
        have h2 : es = es.take (j + 1) ++ es.drop (j + 1) := (List.take_append_drop _ _).symm
        have h3 := hsn
        rw [if_pos q] at h3
        unfold makerS at h3 ⊢
        rw [h2, List.findIdx?_append, h3]
        rfl
      cases hmm : memB t e0.outs with
      | true =>
        have HF : Hid (makerI es t = (j : Nat)) := by show _ = _; unfold makerI; rw [hall hmm]
        rw [hmm] at HH
        clear htk hlj hsn hall hmm to' he0
        go_wp2_with fail
        refine HH.out.mono ?_
        rintro e w2 ⟨rfl, hw⟩
        rw [hw]
        clear hw
        go_wp2
        go_ret
        exact ⟨by rw [HF.out]; rfl, rfl⟩
      | false =>
        have HN : Hid (makerS (es.take (j + 1)) t = none) := by rw [hsn, hmm]; rfl
        rw [hmm] at HH
        clear htk hlj hsn hall hmm to' he0
        go_wp2_with fail
        refine HH.out.mono ?_
        rintro e w2 ⟨rfl, hw⟩
        rw [hw]
        clear hw
        go_wp2
        exact ⟨⟨j + 1, by go_num, by omega, HN.out⟩, by simp [intOf]; omega⟩
    · obtain rfl : j = L := by omega
      have HF : Hid (makerI es t = -1) := by
        have := HM.out
        rw [List.take_of_length_le (Nat.le_of_eq HL.out)] at this
        show _ = _
        unfold makerI; rw [this]
      go_wp2
      go_ret
      exact ⟨by rw [HF.out]; rfl, rfl⟩
end Go.Proofs.YthhbpebihgjpjaaGreatDoor

namespace Go.Proofs.YthhbpebihgjpjaaGreatDoor
open Go.RowKit Go.Maps
set_option maxRecDepth 1000000

theorem ints_ge {w : World} {v : Value} {l : List Nat} (h : IntsAt w v l) : ∃ ao cap, v = .slice ao l.length cap ∧ (0 < l.length → ∃ b o, ao = some ⟨b, o, none⟩ ∧ ∀ k x, l[k]? = some x → w.cell? ⟨b, o + k, none⟩ = some (.int .i64 (x : Nat))) := by
  obtain ⟨ao, cap, rfl, _, q | ⟨b, o, rfl, q⟩⟩ := h
  · exact ⟨ao, cap, rfl, fun hp => by rw [q] at hp; simp at hp⟩
  · exact ⟨_, cap, rfl, fun _ => ⟨b, o, rfl, q⟩⟩
set_option maxHeartbeats 4000000 in
theorem kwanted_any {w : World} {v vo vn : Value} {es : List EdgeS} {cs : List ByteArray} {o : List Nat} {ns : List ByteArray} (h : EdgeRowAt w v es cs) (ho : IntsAt w vo o) (hn : TextsAt w vn ns) (hl : es.length ≤ 64) (hol : o.length ≤ 1000) (hnl : ns.length ≤ 100000000) (hc : cs.length = es.length) (hok : ∀ e ∈ es, e.outs.length ≤ 10000) (hw : ∀ p ∈ o, ∃ e, es[p]? = some e ∧ ∃ x ∈ e.outs, x ∈ ns) :
    Calls Tryz.prog 36 #[v, vo, vn] w fun e w' => e = .returned (.bool true) ∧ w' = w := by
  obtain ⟨ao, cap, hv, _⟩ := id h
  obtain ⟨aoo, capo, hvo, hgo⟩ := ints_ge ho
  obtain ⟨aon, capn, hvn, _⟩ := texts_ge hn
  subst hv hvo hvn
  have HROW : Hid (EdgeRowAt w (.slice ao es.length cap) es cs ∧ cs.length = es.length ∧ ∀ e ∈ es, e.outs.length ≤ 10000) := ⟨h, hc, hok⟩
  have HGO : Hid (0 < o.length → ∃ b q, aoo = some ⟨b, q, none⟩ ∧ ∀ k x, o[k]? = some x → w.cell? ⟨b, q + k, none⟩ = some (.int .i64 (x : Nat))) := hgo
  have HNS : Hid (TextsAt w (.slice aon ns.length capn) ns ∧ ns.length ≤ 100000000) := ⟨hn, hnl⟩
  have HW : Hid (∀ p ∈ o, ∃ e, es[p]? = some e ∧ ∃ x ∈ e.outs, x ∈ ns) := hw
  clear h hc hok ho hn hgo hw hnl
  generalize hL : es.length = L at *
  have HL : Hid (es.length = L) := hL
  have l0 : (L : Int) ≤ 64 := by omega
  clear hL
  generalize hOL : o.length = OL at *
  have HOL : Hid (o.length = OL) := hOL
  have o0 : (OL : Int) ≤ 1000 := by omega
  clear hOL
  generalize hNL : ns.length = NL at *
  clear hNL
  go_enter Tryz.func36, Tryz.ntmps36
  go_wp2_with fail
  go_loop [7] (fun i => ∃ j : Nat, i = .int .i64 j ∧ j ≤ OL) (fun i => OL - (intOf i).toNat)
  case atStart => exact ⟨0, rfl, Nat.zero_le _⟩
  case round =>
    obtain ⟨j, rfl, hj⟩ := hrel
    have j0 : (0 : Int) ≤ (j : Int) := by omega
    by_cases hlt : j < OL
    · have j1 : (j : Int) < (OL : Int) := by omega
      obtain ⟨p, hp⟩ : ∃ p, o[j]? = some p := ⟨o[j]'(by have := HOL.out; omega), by simp⟩
      obtain ⟨b, q, rfl, hcp⟩ := HGO.out (by omega)
      have cp := hcp j p hp
      obtain ⟨e0, he0, x0, hx0, hxn⟩ := HW.out p (List.mem_of_getElem? hp)
      have hpL : p < L := by rw [← HL.out]; exact (List.getElem?_eq_some_iff.1 he0).1
      have p0 : (0 : Int) ≤ (p : Int) := by omega
      have p1 : (p : Int) < (L : Int) := by omega
      obtain ⟨g, o1, aot, nO, cO, aoi, nI, cI, aom, nM, cM, aor, nR, cR, cm, rfl, ⟨c0, _, _, _, _, _⟩, to', _, _, _, _⟩ := edge_cells HROW.out.1 HL.out (HROW.out.2.1.trans HL.out.symm) he0 (Below.refl _ w)
      have hoo := HROW.out.2.2 e0 (List.mem_of_getElem? he0)
      obtain ⟨aot', cO', hvt, hgt⟩ := texts_ge to'
      injection hvt with f1 f2 f3
      subst f1 f3
      have HGT : Hid (0 < e0.outs.length → ∃ b o, aot = some ⟨b, o, none⟩ ∧ ∀ k s, e0.outs[k]? = some s → w.cell? ⟨b, o + k, none⟩ = some (.string s)) := hgt
      have HEO : Hid (e0.outs.length = nO) := f2.symm
      have HX : Hid (x0 ∈ e0.outs ∧ x0 ∈ ns) := ⟨hx0, hxn⟩
      have n0 : (nO : Int) ≤ 10000 := by omega
      clear to' hgt hcp hp he0 hx0 hxn f2 hoo
      go_wp2_with fail
      go_loop [8, 9] (fun s z => ∃ (k : Nat) (sb : Bool), z = .int .i64 k ∧ s = .bool sb ∧ k ≤ nO ∧ (x0 ∈ e0.outs.take k → sb = true)) (fun _ z => nO - (intOf z).toNat)
      case atStart => exact ⟨0, false, rfl, rfl, Nat.zero_le _, fun h => by simp at h⟩
      case round =>
        obtain ⟨k, sb, rfl, rfl, hk, hsb⟩ := hrel
        have HSB : Hid (x0 ∈ e0.outs.take k → sb = true) := hsb
        clear hsb
        have k0 : (0 : Int) ≤ (k : Int) := by omega
        by_cases hkl : k < nO
        · have k1 : (k : Int) < (nO : Int) := by omega
          obtain ⟨x, hx⟩ : ∃ x, e0.outs[k]? = some x := ⟨e0.outs[k]'(by have := HEO.out; omega), by simp⟩
          obtain ⟨b2, q2, rfl, hct⟩ := HGT.out (by have := HEO.out; omega)
          have cx := hct k x hx
          have HH : Hid (Calls Tryz.prog 28 #[.slice aon NL capn, .string x] w fun e w' => e = .returned (.bool (memB x ns)) ∧ w' = w) := khas_any HNS.out.1 x (by have := HNS.out.2; obtain ⟨_, _, e, _⟩ := HNS.out.1; injection e with _ e _; omega)
          have HNX : Hid (x0 ∈ e0.outs.take (k + 1) → (sb || memB x ns) = true) := fun h => by
            have h1 : e0.outs.take (k + 1) = e0.outs.take k ++ [x] := by rw [List.take_add_one, hx]; rfl
            rw [h1] at h
            rcases List.mem_append.1 h with h | h
            · rw [HSB.out h]; rfl
            · obtain rfl := List.mem_singleton.1 h
              rw [mem_memB.2 HX.out.2, Bool.or_true]
          clear hct hx
          generalize memB x ns = mx at *
          cases sb with
          | false =>
            go_wp2_with fail
            refine HH.out.mono ?_
            rintro e w2 ⟨rfl, hw⟩
            rw [hw]
            clear hw
            go_wp2
            exact ⟨⟨k + 1, mx, by go_num, rfl, by omega, fun h => by have := HNX.out h; simpa using this⟩, by simp [intOf]; omega⟩
          | true =>
            go_wp2_with fail
            refine HH.out.mono ?_
            rintro e w2 ⟨rfl, hw⟩
            rw [hw]
            clear hw
            go_wp2
            exact ⟨⟨k + 1, true, by go_num, rfl, by omega, fun _ => rfl⟩, by simp [intOf]; omega⟩
        · obtain rfl : k = nO := by omega
          have hs : sb = true := HSB.out (by rw [List.take_of_length_le (Nat.le_of_eq HEO.out)]; exact HX.out.1)
          subst hs
          go_wp2
          exact ⟨⟨j + 1, by go_num, by omega⟩, by simp [intOf]; omega⟩
    · obtain rfl : j = OL := by omega
      go_wp2
      go_ret
      exact ⟨rfl, rfl⟩
end Go.Proofs.YthhbpebihgjpjaaGreatDoor

namespace Go.Proofs.YthhbpebihgjpjaaGreatDoor
open Go.RowKit
set_option maxRecDepth 1000000

/-- One step of a script of builderkeep, as its five cells hold it. -/
structure KOpV where
  kd : Int
  a : Int
  b : Int
  s : ByteArray
  t : ByteArray
def KOpV.vals (x : KOpV) : List Value := [.int .i64 x.kd, .int .i64 x.a, .int .i64 x.b, .string x.s, .string x.t]
structure KOpAt (w : World) (x : KOpV) (b o : Nat) : Prop where
  cells : w.rangeAt b o x.vals
  lt : b < w.heap.size
  sS : x.s.size ≤ 140737488351232
  sT : x.t.size ≤ 140737488351232
/-- A script that is there: n steps behind an address. -/
def KScriptAt (w : World) (ao : Option Addr) (n : Nat) : Prop :=
  n ≤ 140737488351232 ∧ (n = 0 ∨ ∃ b o, ao = some ⟨b, o, none⟩ ∧ ∀ i, i < n → ∃ x, KOpAt w x b (o + i * 5))
theorem KOpAt.later {w w' : World} {x : KOpV} {b o : Nat} (h : KOpAt w x b o) (hs : w.heap.size ≤ w'.heap.size) (hb : ∀ k, k < w.heap.size → w'.heap[k]? = w.heap[k]?) : KOpAt w' x b o :=
  ⟨fun j v hv => by rw [World.cell?_of_block (w := w) (a := ⟨b, o + j, none⟩) (hb b h.lt)]; exact h.cells j v hv, by have := h.lt; omega, h.sS, h.sT⟩
theorem KScriptAt.later {w w' : World} {ao : Option Addr} {n : Nat} (h : KScriptAt w ao n) (hs : w.heap.size ≤ w'.heap.size) (hb : ∀ k, k < w.heap.size → w'.heap[k]? = w.heap[k]?) : KScriptAt w' ao n := by
  obtain ⟨h0, h | ⟨b, o, e, h⟩⟩ := h
  · exact ⟨h0, Or.inl h⟩
  · refine ⟨h0, Or.inr ⟨b, o, e, fun i hi => ?_⟩⟩
    obtain ⟨x, hx⟩ := h i hi
    exact ⟨x, hx.later hs hb⟩
theorem KOpAt.c0 {w : World} {x : KOpV} {b o : Nat} (h : KOpAt w x b o) : w.cell? ⟨b, o, none⟩ = some (.int .i64 x.kd) := h.cells 0 _ rfl
theorem KOpAt.c1 {w : World} {x : KOpV} {b o : Nat} (h : KOpAt w x b o) : w.cell? ⟨b, o + 1, none⟩ = some (.int .i64 x.a) := h.cells 1 _ rfl
theorem KOpAt.c2 {w : World} {x : KOpV} {b o : Nat} (h : KOpAt w x b o) : w.cell? ⟨b, o + 2, none⟩ = some (.int .i64 x.b) := h.cells 2 _ rfl
theorem KOpAt.c3 {w : World} {x : KOpV} {b o : Nat} (h : KOpAt w x b o) : w.cell? ⟨b, o + 3, none⟩ = some (.string x.s) := h.cells 3 _ rfl
theorem KOpAt.c4 {w : World} {x : KOpV} {b o : Nat} (h : KOpAt w x b o) : w.cell? ⟨b, o + 4, none⟩ = some (.string x.t) := h.cells 4 _ rfl
set_option maxHeartbeats 2000000 in
theorem ksmall_any (ao : Option Addr) (n cap : Nat) (w : World) (hs : KScriptAt w ao n) :
    Calls Tryz.prog 16 #[.slice ao n cap] w fun e w' => ∃ r : Bool, e = .returned (.bool r) ∧ (r = true → n ≤ 32768) ∧ Below w.heap.size w w' := by
  have HS : Hid (KScriptAt w ao n) := hs
  have hn := hs.1
  clear hs
  have n0 : (n : Int) ≤ 140737488351232 := by omega
  go_enter Tryz.func16, Tryz.ntmps16
  by_cases hgr : 32768 < n
  · have g1 : (32768 : Int) < (n : Int) := by omega
    go_wp2
    go_ret
    exact ⟨false, rfl, fun h => (by cases h), Below.refl _ _⟩
  · have g1 : ¬ (32768 : Int) < (n : Int) := by omega
    go_wp2_with fail
    go_loopw [3, 4] (fun N i wr => ∃ (x : Int) (j : Nat), N = .int .i64 x ∧ i = .int .i64 j ∧ j ≤ n ∧ Below w.heap.size w wr) (fun _ i _ => n - (intOf i).toNat)
    case atStart => exact ⟨_, 0, rfl, rfl, by omega, Below.refl _ _⟩
    case round =>
      obtain ⟨x, j, rfl, rfl, hj, hbel⟩ := hrel
      have HB : Hid (Below w.heap.size w wr) := hbel
      by_cases hlt : j < n
      · obtain ⟨b, o, rfl, hop⟩ : ∃ b o, ao = some ⟨b, o, none⟩ ∧ ∃ y, KOpAt w y b (o + j * 5) := by
          obtain ⟨_, h | ⟨b, o, e, h⟩⟩ := HS.out
          · omega
          · exact ⟨b, o, e, h j hlt⟩
        obtain ⟨y, hy0⟩ := hop
        have hy : KOpAt wr y b (o + j * 5) := hy0.later hbel.size hbel.block
        have c3 := hy.c3
        have c4 := hy.c4
        have hsS := hy.sS
        have hsT := hy.sT
        obtain ⟨kd, ya, yb, ys, yt⟩ := y
        simp only at c3 c4 hsS hsT
        clear hy hy0 hbel
        have i0 : (0 : Int) ≤ (j : Int) := by omega
        have i1 : (j : Int) < (n : Int) := by omega
        go_wp2
        go_quiet (fail)
        have HB2 : Hid (Below w.heap.size w (wr.drewN nq)) := HB.out.trans ⟨rfl, rfl, rfl, Nat.le_refl _, fun _ _ => rfl⟩
        clear c3 c4
        generalize wr.drewN nq = w2 at *
        go_wp2
        · go_ret
          exact ⟨false, rfl, fun h => (by cases h), HB2.out⟩
        · exact ⟨⟨_, j + 1, rfl, by go_num, by omega, HB2.out⟩, by simp [intOf]; omega⟩
      · obtain rfl : j = n := by omega
        go_wp2
        go_ret
        exact ⟨true, rfl, fun _ => by omega, HB.out⟩
end Go.Proofs.YthhbpebihgjpjaaGreatDoor
