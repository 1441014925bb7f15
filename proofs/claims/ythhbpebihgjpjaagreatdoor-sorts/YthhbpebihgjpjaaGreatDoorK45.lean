import Derived.Test.YthhbpebihgjpjaaGreatDoorK08
import Derived.Deep.AppendLies
import Derived.Laws.AppendOwnNone
import Derived.Test.YthhbpebihgjpjaaGreatDoorK34
import Derived.Test.YthhbpebihgjpjaaGreatDoorK43
import Derived.Test.YthhbpebihgjpjaaGreatDoorK44
import Derived.Deep.RegionHeld3
namespace Go.Proofs.YthhbpebihgjpjaaGreatDoor
open Go.RowKit
set_option maxRecDepth 1000000

/-- `append(v, x...)` of texts, x being empty too. -/
theorem run_append_texts {w : World} (ty : TypeId) (B : Nat) (v : Value) (n : Nat) (ds : List Value) (hown : w.ownsRow B 9 1 v n ds) (x : Value) (l : List ByteArray) (hx : TextsAt w x l) (hle : n + l.length ≤ 100000000) (hb : B ≤ w.heap.size) : ∃ ao' cap' w', (Builtin.append_ #[32, 32] ty #[v, x]).run Tryz.prog w = .ok (.slice ao' (n + l.length) cap') w' ∧ w'.ownsRow B 9 1 (.slice ao' (n + l.length) cap') (n + l.length) (ds ++ l.map Value.string) ∧ w.grownBy w' v.ownBlock ∧ ∀ k, (Value.slice ao' (n + l.length) cap').ownBlock = some k → v.ownBlock = some k ∨ w.heap.size ≤ k := by
  have hinf : (Tryz.prog.info? 9).map (fun i => (i.size, i.bytes, i.zero)) = some (1, 16, some (.string ⟨#[]⟩)) := by kernel_rfl
  obtain ⟨ti, hti, htj⟩ := Option.map_eq_some_iff.1 hinf
  simp only [Prod.mk.injEq] at htj
  obtain ⟨ao, cap, rfl, hc, hh⟩ := hx
  have main : ∀ b o, ao = some ⟨b, o, none⟩ → (∀ k s, l[k]? = some s → w.cell? ⟨b, o + k, none⟩ = some (.string s)) → ∃ ao' cap' w', (Builtin.append_ #[32, 32] ty #[v, .slice ao l.length cap]).run Tryz.prog w = .ok (.slice ao' (n + l.length) cap') w' ∧ w'.ownsRow B 9 1 (.slice ao' (n + l.length) cap') (n + l.length) (ds ++ l.map Value.string) ∧ w.grownBy w' v.ownBlock ∧ ∀ k, (Value.slice ao' (n + l.length) cap').ownBlock = some k → v.ownBlock = some k ∨ w.heap.size ≤ k := by
    intro b o hao hcell
    subst hao
    obtain ⟨v', w', hr, h2, h3, _, h5⟩ := run_append_own_at (P := Tryz.prog) w B 32 ty 9 ti (.string ⟨#[]⟩) 1 16 Tryz.underlying32 hti htj.2.2 htj.1 htj.2.1 rfl (by decide) v n ds hown ⟨b, o, none⟩ l.length cap (l.map Value.string) (by rw [List.length_map]; omega) (fun j u hu => by
      have hadd : (⟨b, o, none⟩ : Addr).add j = ⟨b, o + j, none⟩ := by unfold Addr.add; split <;> simp_all
      rw [List.getElem?_map] at hu
      obtain ⟨y, hy, rfl⟩ := Option.map_eq_some_iff.1 hu
      rw [hadd]; exact hcell j y hy) (by intro u hu; obtain ⟨y, _, rfl⟩ := List.mem_map.1 hu; rfl) (by unfold maxLen; omega) (by omega) hb
    obtain ⟨ao', cap', rfl, _, _⟩ := row_form h2
    refine ⟨ao', cap', w', hr, h2, h3, fun k hk => ?_⟩
    rcases h5 with h5 | h5
    · exact Or.inl (by rw [← h5]; exact hk)
    · rw [hk] at h5
      have := Option.some.inj h5
      exact Or.inr (by omega)
  rcases hh with ⟨h0, rfl, _⟩ | ⟨b, o, rfl, hcell⟩
  · cases ao with
    | none =>
      obtain rfl := h0 rfl
      obtain ⟨ao', cap', rfl, _, _⟩ := row_form hown
      refine ⟨ao', cap', w, run_append_owned_none (P := Tryz.prog) (w := w) B 32 ty 9 ti 1 Tryz.underlying32 hti _ n ds hown, ?_, ⟨rfl, rfl, rfl, Nat.le_refl _, fun _ _ _ => rfl⟩, fun k hk => Or.inl hk⟩
      rw [List.map_nil, List.append_nil]; exact hown
    | some a =>
      obtain ⟨b, o, f⟩ := a
      obtain ⟨v', w', hr, h2, h3, _, h5⟩ := run_append_own_at (P := Tryz.prog) w B 32 ty 9 ti (.string ⟨#[]⟩) 1 16 Tryz.underlying32 hti htj.2.2 htj.1 htj.2.1 rfl (by decide) v n ds hown ⟨b, o, f⟩ 0 cap [] rfl (fun j u hu => by simp at hu) (fun u hu => by cases hu) (by unfold maxLen; simp at hle; omega) (by simp at hle; omega) hb
      obtain ⟨ao', cap', rfl, _, _⟩ := row_form h2
      refine ⟨ao', cap', w', hr, h2, h3, fun k hk => ?_⟩
      rcases h5 with h5 | h5
      · exact Or.inl (by rw [← h5]; exact hk)
      · have hk' : (Value.slice ao' (n + 0) cap').ownBlock = some k := hk
        rw [hk'] at h5
        have := Option.some.inj h5
        exact Or.inr (by omega)
  · exact main b o rfl hcell
theorem wp_append_texts {w : World} {o : Oper} {a : Act} {K : Act → World → Prop} {Q : Exit → Act → World → Prop} (s x : Operand)
    (ho : o.op = .call { callee := .builtin .append, args := #[s, x], argTypes := #[32, 32] }) (B : Nat) (v : Value) (n : Nat) (ds : List Value) (hs : a.eval s = v) (hown : w.ownsRow B 9 1 v n ds) (vx : Value) (l : List ByteArray) (hx : a.eval x = vx) (hxl : TextsAt w vx l) (hle : n + l.length ≤ 100000000) (hb : B ≤ w.heap.size)
    (h : ∀ ao' cap' w', w'.ownsRow B 9 1 (.slice ao' (n + l.length) cap') (n + l.length) (ds ++ l.map Value.string) → w.grownBy w' v.ownBlock → (∀ k, (Value.slice ao' (n + l.length) cap').ownBlock = some k → v.ownBlock = some k ∨ w.heap.size ≤ k) → K (a.put o.dst (.slice ao' (n + l.length) cap')) w') : o.wp Tryz.prog a w K Q := by
  obtain ⟨ao', cap', w', hr, h2, h3, h4⟩ := run_append_texts o.type B v n ds hown vx l hxl hle hb
  unfold Oper.wp execOp
  simp only [ho, resolve, invoke, builtin, Sem.run_bind, Sem.run_pure, Result.andThen_ok, List.map_toArray, List.map_cons, List.map_nil, hs, hx, hr]
  exact h ao' cap' w' h2 h3 h4
theorem wpList_append_texts {w : World} {ops : Array Oper} {rest : List Oper} {o : Oper} {a : Act} {Q : Exit → Act → World → Prop} (hgd : o.guard = none) (s x : Operand)
    (ho : o.op = .call { callee := .builtin .append, args := #[s, x], argTypes := #[32, 32] }) (B : Nat) (v : Value) (n : Nat) (ds : List Value) (hs : a.eval s = v) (hown : w.ownsRow B 9 1 v n ds) (vx : Value) (l : List ByteArray) (hx : a.eval x = vx) (hxl : TextsAt w vx l) (hle : n + l.length ≤ 100000000) (hb : B ≤ w.heap.size)
    (h : ∀ ao' cap' w', w'.ownsRow B 9 1 (.slice ao' (n + l.length) cap') (n + l.length) (ds ++ l.map Value.string) → w.grownBy w' v.ownBlock → (∀ k, (Value.slice ao' (n + l.length) cap').ownBlock = some k → v.ownBlock = some k ∨ w.heap.size ≤ k) → wpList Tryz.prog ops Q rest (a.put o.dst (.slice ao' (n + l.length) cap')) w') : wpList Tryz.prog ops Q (o :: rest) a w :=
  wpList_plain hgd fun _ hK => wp_append_texts s x ho B v n ds hs hown vx l hx hxl hle hb fun ao' cap' w' h2 h3 h4 => hK _ _ (h ao' cap' w' h2 h3 h4)
theorem step_append_texts {w : World} {ops : Array Oper} {o : Oper} {a : Act} {K : Act → World → Prop} {Q : Exit → Act → World → Prop} {E : Prop} (hgd : o.guard = none) (s x : Operand)
    (ho : o.op = .call { callee := .builtin .append, args := #[s, x], argTypes := #[32, 32] }) (B : Nat) (v : Value) (n : Nat) (ds : List Value) (hs : a.eval s = v) (hown : w.ownsRow B 9 1 v n ds) (vx : Value) (l : List ByteArray) (hx : a.eval x = vx) (hxl : TextsAt w vx l) (hle : n + l.length ≤ 100000000) (hb : B ≤ w.heap.size)
    (h : ∀ ao' cap' w', w'.ownsRow B 9 1 (.slice ao' (n + l.length) cap') (n + l.length) (ds ++ l.map Value.string) → w.grownBy w' v.ownBlock → (∀ k, (Value.slice ao' (n + l.length) cap').ownBlock = some k → v.ownBlock = some k ∨ w.heap.size ≤ k) → K (a.put o.dst (.slice ao' (n + l.length) cap')) w') : if Region.wanted o (yielded ops a.tmps) = true then Oper.wp Tryz.prog o a w K Q else E := by
  have hw : Region.wanted o (yielded ops a.tmps) = true := by simp [Region.wanted, hgd]
  rw [if_pos hw]
  exact wp_append_texts s x ho B v n ds hs hown vx l hx hxl hle hb h
end Go.Proofs.YthhbpebihgjpjaaGreatDoor

namespace Go.Proofs.YthhbpebihgjpjaaGreatDoor
open Go.RowKit
set_option maxRecDepth 1000000

/-- Edges that stay, whatever happens below W0. -/
def EdgeK (W0 : Nat) (w : World) (v : Value) (es : List EdgeS) (cs : List ByteArray) : Prop := ∀ w'', w.heap.size ≤ w''.heap.size → (∀ k, W0 ≤ k → k < w.heap.size → w''.heap[k]? = w.heap[k]?) → EdgeRowAt w'' v es cs
theorem EdgesAt.stays {W0 : Nat} {w : World} {c : Nat → Nat} {v : Value} {ds : List DraftV} {es : List EdgeS} {cs : List ByteArray} (h : EdgesAt W0 w c v ds es cs) : EdgeK W0 w v es cs := fun w'' hs hk => by
  have hrow := rkeep h.row (w' := w'') (fun k hq => hk k (rblock h.row k hq).1 (rblock h.row k hq).2)
  have hc := h.const w'' hs (fun k h1 h2 => hk k (by
    rcases Nat.lt_or_ge k W0 with q | q
    · have := h.low k q; omega
    · exact q) h1)
  obtain ⟨ao, cap, rfl, hcap, hg⟩ := row_form hrow
  refine ⟨ao, cap, rfl, ?_⟩
  by_cases h0 : es = []
  · exact Or.inl h0
  · obtain ⟨g, rfl⟩ := hg (List.length_pos_iff.2 h0)
    refine Or.inr ⟨g, 0, rfl, fun k e y he hy => ?_⟩
    have hlt : k < ds.length := by rw [hc.1]; exact (List.getElem?_eq_some_iff.1 he).1
    obtain ⟨d, hd⟩ : ∃ d, ds[k]? = some d := ⟨ds[k], by simp⟩
    have hl := hc.2 k d e hd he
    have cell : ∀ i u, i < 6 → (ecell d y)[i]? = some u → w''.cell? ⟨g, k * 6 + i, none⟩ = some u := fun i u hi hu => (row_cell hrow (k * 6 + i) u (by rw [ecells_at ds cs k d y i hd hy hi]; exact hu)).1
    rw [Nat.zero_add]
    refine ⟨d.vo, d.vi, d.vm, d.vr, ⟨cell 0 _ (by omega) rfl, cell 1 _ (by omega) rfl, cell 2 _ (by omega) rfl, cell 3 _ (by omega) rfl, ?_, cell 5 _ (by omega) rfl⟩, hl.1, hl.2.1, hl.2.2.1, hl.2.2.2.1⟩
    rw [← hl.2.2.2.2]
    exact cell 4 _ (by omega) rfl
end Go.Proofs.YthhbpebihgjpjaaGreatDoor

namespace Go.Proofs.YthhbpebihgjpjaaGreatDoor
open Go.RowKit Go.Maps
set_option maxRecDepth 1000000

/-- Two rows of texts that grow: what is made so far, and what is needed. -/
structure KLoop (w8 : World) (vo vn : Value) (os ns : List ByteArray) (wr : World) : Prop where
  outs : wr.ownsRow w8.heap.size 9 1 vo os.length (os.map Value.string)
  needs : wr.ownsRow w8.heap.size 9 1 vn ns.length (ns.map Value.string)
  apart : ∀ k, vo.ownBlock = some k → vn.ownBlock ≠ some k
  bl : Below w8.heap.size w8 wr
theorem KLoop.below {w8 : World} {vo vn : Value} {os ns : List ByteArray} {wr w' : World} (h : KLoop w8 vo vn os ns wr) (hb : Below wr.heap.size wr w') : KLoop w8 vo vn os ns w' :=
  ⟨rkeep h.outs (fun k hk => hb.block k (rblock h.outs k hk).2), rkeep h.needs (fun k hk => hb.block k (rblock h.needs k hk).2), h.apart, h.bl.trans (hb.mono h.bl.size)⟩
theorem KLoop.addOuts {w8 : World} {vo vn vo' : Value} {os ns l : List ByteArray} {wr w' : World} (h : KLoop w8 vo vn os ns wr) (hg : wr.grownBy w' vo.ownBlock) (hr : w'.ownsRow w8.heap.size 9 1 vo' (os.length + l.length) (os.map Value.string ++ l.map Value.string)) (hat : ∀ k, vo'.ownBlock = some k → vo.ownBlock = some k ∨ wr.heap.size ≤ k) : KLoop w8 vo' vn (os ++ l) ns w' where
  outs := by rw [List.length_append, List.map_append]; exact hr
  needs := rkeep h.needs (fun k hk => hg.block k (rblock h.needs k hk).2 (fun e => h.apart k e.symm hk))
  apart := fun k hk hq => by
    rcases hat k hk with q | q
    · exact h.apart k q hq
    · have := (rblock h.needs k hq).2
      omega
  bl := h.bl.grown hg h.bl.size (fun k hk => (rblock h.outs k hk).1)
theorem KLoop.addNeeds {w8 : World} {vo vn vn' : Value} {os ns l : List ByteArray} {wr w' : World} (h : KLoop w8 vo vn os ns wr) (hg : wr.grownBy w' vn.ownBlock) (hr : w'.ownsRow w8.heap.size 9 1 vn' (ns.length + l.length) (ns.map Value.string ++ l.map Value.string)) (hat : ∀ k, vn'.ownBlock = some k → vn.ownBlock = some k ∨ wr.heap.size ≤ k) : KLoop w8 vo vn' os (ns ++ l) w' where
  outs := rkeep h.outs (fun k hk => hg.block k (rblock h.outs k hk).2 (fun e => h.apart k hk e.symm))
  needs := by rw [List.length_append, List.map_append]; exact hr
  apart := fun k hk hq => by
    rcases hat k hq with q | q
    · exact h.apart k hk q
    · have := (rblock h.outs k hk).2
      omega
  bl := h.bl.grown hg h.bl.size (fun k hk => (rblock h.needs k hk).1)
theorem fresh_texts (w : World) (B : Nat) (h : B ≤ w.heap.size) : (w.alloc (.cells #[] 9)).ownsRow B 9 1 (.slice (some ⟨w.heap.size, 0, none⟩) 0 0) 0 [] := ⟨rfl, Or.inr ⟨w.heap.size, 0, #[], rfl, h, heapA_new _ _ _ rfl, Nat.le_refl _, Nat.zero_le _, rfl, rfl⟩⟩
/-- What is asked of the manifest, for the walk behind it. -/
structure KMan (S : St) (cs ts : List ByteArray) (o : List Nat) : Prop where
  ok : OrderOk S ts o
  kept : SKept S
  few : ∀ e ∈ S.edges, e.outs.length ≤ 10000 ∧ e.ins.length ≤ 10000 ∧ e.impl.length ≤ 10000 ∧ e.ord.length ≤ 10000
  edges : S.edges.length ≤ 64
  cmds : cs.length = S.edges.length
theorem KMan.olen {S : St} {cs ts : List ByteArray} {o : List Nat} (h : KMan S cs ts o) : o.length ≤ 64 := Nat.le_trans (order_len h.ok.nd h.ok.lt) h.edges
theorem KMan.outs {S : St} {cs ts : List ByteArray} {o : List Nat} (h : KMan S cs ts o) (j : Nat) : (outsOf S.edges (o.take j)).length ≤ 640000 := by
  have h1 := outsOf_len h.few (o.take j)
  have h2 : (o.take j).length ≤ 64 := Nat.le_trans (by rw [List.length_take]; exact Nat.min_le_right _ _) h.olen
  omega
theorem KMan.hangs {S : St} {cs ts : List ByteArray} {o : List Nat} (h : KMan S cs ts o) (j : Nat) : (hangsOf S.edges (o.take j)).length ≤ 1920000 := by
  have h1 := hangsOf_len h.few (o.take j)
  have h2 : (o.take j).length ≤ 64 := Nat.le_trans (by rw [List.length_take]; exact Nat.min_le_right _ _) h.olen
  omega
end Go.Proofs.YthhbpebihgjpjaaGreatDoor
