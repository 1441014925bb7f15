import Derived.Test.YthhbpebihgjpjaaGreatDoorK23
import Derived.Test.YthhbpebihgjpjaaGreatDoorK24
import Derived.Test.YthhbpebihgjpjaaGreatDoorK20
namespace Go.Proofs.YthhbpebihgjpjaaGreatDoor
open Go.RowKit Go.Maps
set_option maxRecDepth 1000000

/-- Defaults more. -/
theorem PStC.addDefs {p : PV} {a : Nat → Addr} {B : Nat} {w w3 : World} {rb : Nat} {n : Int} {ls : List Line} {S : St} {m : Nat} {vf' : Value} {l : List ByteArray} (h : PStC p a B w rb n ls S (m + 1)) (hg : w.grownBy w3 p.vf.ownBlock) (hr : w3.ownsRow B 9 1 vf' (S.defs.length + l.length) (S.defs.map Value.string ++ l.map Value.string)) (hat : ∀ k, vf'.ownBlock = some k → p.vf.ownBlock = some k ∨ w.heap.size ≤ k) (hl : l.length ≤ 4000) : PStC { p with vf := vf', c := fun k => if vf'.ownBlock = some k then 6 else p.c k } a B (w3.setCell ⟨rb, 6, none⟩ vf') rb n ls { S with defs := S.defs ++ l } m := by
  have hrb := h.rowlt
  have hnv : ∀ k, k < w.heap.size → p.c k ≠ 6 → vf'.ownBlock ≠ some k := fun k hk hc e => by
    rcases hat k e with q | q
    · exact hc (h.c6 k q)
    · omega
  have hc' : ∀ k, k < w.heap.size → p.c k ≠ 6 → (if vf'.ownBlock = some k then 6 else p.c k) = p.c k := fun k hk hc => if_neg (hnv k hk hc)
  have off3 : ∀ k, k < w.heap.size → p.c k ≠ 6 → w3.heap[k]? = w.heap[k]? := fun k hk hc => hg.block k hk (fun e => hc (h.c6 k e.symm))
  have off : ∀ k, k < w.heap.size → p.c k ≠ 6 → p.c k ≠ 1 → (w3.setCell ⟨rb, 6, none⟩ vf').heap[k]? = w.heap[k]? := fun k hk hc h1 => by
    rw [heap_setCell_other _ _ _ _ (show k ≠ rb from fun e => h1 (by rw [e]; exact h.c1))]
    exact off3 k hk hc
  have hsz : w.heap.size ≤ (w3.setCell ⟨rb, 6, none⟩ vf').heap.size := by simpa using hg.size
  exact {
    gl := h.gl.keep hsz (fun k hk => off k (Nat.lt_of_lt_of_le hk h.gl.size) (by rw [h.low k (Nat.lt_of_lt_of_le hk h.base)]; decide) (by rw [h.low k (Nat.lt_of_lt_of_le hk h.base)]; decide))
    base := h.base
    row := by
      have h1 : w3.heap[rb]? = _ := (off3 rb hrb (by rw [h.c1]; decide)).trans h.row
      show (w3.setCell ⟨rb, 6, none⟩ vf').heap[rb]? = _
      rw [heap_setCell_same _ _ _ _ _ _ h1]; rfl
    const := h.const.step hsz (fun k hk h0 => ⟨off k hk (by rw [h0]; decide) (by rw [h0]; decide), (hc' k hk (by rw [h0]; decide)).trans h0⟩)
    top := TMap.keep h.top (off p.tb h.top.lt (by rw [h.c2]; decide) (by rw [h.c2]; decide))
    rules := TMap.keep h.rules (off p.rm h.rules.lt (by rw [h.c3]; decide) (by rw [h.c3]; decide))
    mlt := Nat.lt_of_lt_of_le h.mlt (hsz)
    made := TMap.keep h.made (off p.mm h.made.lt (by rw [h.c4]; decide) (by rw [h.c4]; decide))
    drafts := rkeep h.drafts (fun k hk => off k (rblock h.drafts k hk).2 (by rw [h.c5 k hk]; decide) (by rw [h.c5 k hk]; decide))
    defs := by
      show World.ownsRow _ _ _ _ _ (S.defs ++ l).length ((S.defs ++ l).map Value.string)
      rw [List.length_append, List.map_append]
      exact rkeep hr (fun k hk => heap_setCell_other _ _ _ _ (show k ≠ rb from fun e => hnv rb hrb (by rw [h.c1]; decide) (by rw [← e]; exact hk)))
    c1 := (hc' rb hrb (by rw [h.c1]; decide)).trans h.c1
    c2 := (hc' p.tb h.top.lt (by rw [h.c2]; decide)).trans h.c2
    c3 := (hc' p.rm h.rules.lt (by rw [h.c3]; decide)).trans h.c3
    c4 := (hc' p.mm h.made.lt (by rw [h.c4]; decide)).trans h.c4
    c5 := fun k hk => (hc' k (rblock h.drafts k hk).2 (by rw [h.c5 k hk]; decide)).trans (h.c5 k hk)
    c6 := fun k hk => if_pos hk
    low := fun k hk => by
      show (if vf'.ownBlock = some k then 6 else p.c k) = 9
      rw [if_neg (fun e => by have := (rblock hr k e).1; omega)]
      exact h.low k hk
    few := by show p.n1 + m ≤ 5000 ∧ p.n2 + m ≤ 5000 ∧ p.n3 + 8000 * m ≤ 40000000; have := h.few; omega
    ok := { top := h.ok.top, tops := (by show S.top.length + m ≤ 5000; have := h.ok.tops; omega), rules := h.ok.rules, rulen := (by show S.rules.length + m ≤ 5000; have := h.ok.rulen; omega), edges := h.ok.edges, edge := h.ok.edge, defs := (by show (S.defs ++ l).length + 4000 * m ≤ _; rw [List.length_append]; have := h.ok.defs; omega), lines := h.ok.lines, count := h.ok.count } }
theorem PStB.scopes {p : PV} {a : Nat → Addr} {B : Nat} {w : World} {rb : Nat} {n : Int} {ls : List Line} {S : St} {m : Nat} (h : PStB p a B w rb n ls S m) : ScopesAt w (.pointer (some ⟨p.sb, 0, none⟩)) [S.top] := ⟨p.sb, p.tb, p.n1, .pointer none, rfl, Nat.zero_le _, h.const.now.2.1, h.top, rfl⟩
theorem PStB.boks {p : PV} {a : Nat → Addr} {B : Nat} {w : World} {rb : Nat} {n : Int} {ls : List Line} {S : St} {m : Nat} (h : PStB p a B w rb n ls S m) : ∀ l ∈ [S.top], BOk l := fun l hl => by
  obtain rfl := List.mem_singleton.1 hl
  exact h.ok.top
theorem textsAt_nil (w : World) : TextsAt w (.slice none 0 0) [] := ⟨none, 0, rfl, Nat.le_refl _, Or.inl ⟨fun _ => rfl, rfl, trivial⟩⟩
set_option maxHeartbeats 4000000 in
theorem readDefaults_any {p : PV} {a : Nat → Addr} {B : Nat} {w : World} {rb no : Nat} {ls : List Line} {S : St} {m : Nat} {t : ByteArray} (h : PStC p a B w rb (no : Nat) ls S (m + 1)) (ht : t.size ≤ 4000) :
    Calls Tryz.prog 197 #[.pointer (some ⟨rb, 0, none⟩), .string t] w (stmtEnd a B rb m w (defaultS S no t ls)) := by
  have hinf : (Tryz.prog.info? 9).map (fun i => (i.size, i.bytes, i.zero)) = some (1, 16, some (.string ⟨#[]⟩)) := by kernel_rfl
  obtain ⟨tj, hti, htj⟩ := Option.map_eq_some_iff.1 hinf
  simp only [Prod.mk.injEq] at htj
  have HTJ : Hid (Tryz.prog.info? 9 = some tj ∧ tj.size = 1 ∧ tj.bytes = 16 ∧ tj.zero = some (.string ⟨#[]⟩)) := ⟨hti, htj.1, htj.2.1, htj.2.2⟩
  clear hinf hti htj
  have H : Hid (PStC p a B w rb (no : Nat) ls S (m + 1)) := h
  have HRP := readPaths_any rb (no : Nat) t [S.top] (some ⟨p.sb, 0, none⟩) a [] (.slice none 0 0) w h.at0 (by rw [cell_of_row _ _ _ _ _ _ h.row]; rfl) h.scopes h.gl ht h.boks (textsAt_nil w) (by decide)
  have HD : Hid (defaultS S no t ls = match pathsS (envL [S.top]) [] t with
    | .error e => .error (e, no)
    | .ok a => if firstS a = [] then .error (.syn, no) else .ok ({ S with defs := S.defs ++ firstS a }, ls)) := by
    show defaultS S no t ls = _
    unfold defaultS
    rw [envOf_one]
    cases pathsS (envL [S.top]) [] t with
    | error e => rfl
    | ok a => simp only
  clear h
  cases hp : pathsS (envL [S.top]) [] t with
  | error b =>
    have HF : Hid (defaultS S no t ls = .error (b, no)) := by rw [HD.out, hp]; rfl
    rw [hp] at HRP
    go_enter Tryz.func197, Tryz.ntmps197
    go_wp2_with fail
    refine HRP.mono ?_
    rintro e w1 ⟨⟨b', rfl, s0, s1⟩, hb1⟩
    exact ⟨rfl, (by rw [HF.out]; exact ⟨⟨b', rfl, s0, s1⟩, hb1.mono H.out.bw⟩)⟩
  | ok s =>
    obtain ⟨hok, hcnt, hlen⟩ := pathsS_ok hp
    obtain ⟨x, hx0, hfs, hxm⟩ := hok.firstS
    have hxl : x.2.length ≤ 4000 := by have := countS_mem hxm; omega
    rw [hp] at HRP
    have HD2 : Hid (defaultS S no t ls = if x.2 = [] then .error (.syn, no) else .ok ({ S with defs := S.defs ++ x.2 }, ls)) := by rw [HD.out, hp, ← hfs]; rfl
    have HX0 : Hid (s[0]? = some x) := hx0
    have hs0 : 0 < s.length := (List.getElem?_eq_some_iff.1 hx0).1
    clear hp hok hcnt hfs hxm hx0 HD
    obtain ⟨x1, x2⟩ := x
    simp only at hxl HD2
    go_enter Tryz.func197, Tryz.ntmps197
    go_wp2_with fail
    refine HRP.mono ?_
    rintro e w1 ⟨⟨v1, rfl, hsec⟩, hb1⟩
    obtain ⟨g, cap, rfl, hc, hcell⟩ := hsec.cell
    obtain ⟨pv, _, cp, htx⟩ := hcell 0 (x1, x2) HX0.out
    rw [Nat.zero_mul, Nat.zero_add] at cp
    obtain ⟨ao, pcap, hpv, hpc, htx2⟩ := htx.1
    simp only at hpv
    subst hpv
    have HP1 : Hid (PStC p a B w1 rb (no : Nat) ls S (m + 1)) := H.out.below hb1
    have HB1 : Hid (Below B w w1) := hb1.mono H.out.bw
    have c4 : w1.cell? ⟨4, 0, none⟩ = some (.iface 472 (.pointer (some (a 4)))) := HP1.out.gl.errs 4 (by decide)
    have sl : (0 : Int) < (s.length : Int) := by omega
    generalize s.length = SL at *
    clear hsec hcell hb1
    by_cases h0 : x2 = []
    · subst h0
      have HF : Hid (defaultS S no t ls = .error (.syn, no)) := HD2.out.trans (if_pos rfl)
      have HNO := need_no rb (no : Nat) 472 (.pointer (some (a 4))) w1 HP1.out.at0
      simp only [List.length_nil] at cp
      go_wp2_with fail
      refine HNO.mono ?_
      rintro e w8 ⟨⟨b', rfl, s0, s1⟩, hb8⟩
      exact ⟨rfl, (by rw [HF.out]; exact ⟨⟨b', rfl, s0, s1⟩, HB1.out.trans (hb8.mono HP1.out.bw)⟩)⟩
    · have HF : Hid (defaultS S no t ls = .ok ({ S with defs := S.defs ++ x2 }, ls)) := HD2.out.trans (if_neg h0)
      obtain ⟨b, o, rfl, hbc⟩ : ∃ b o, ao = some ⟨b, o, none⟩ ∧ ∀ k s, x2[k]? = some s → w1.cell? ⟨b, o + k, none⟩ = some (.string s) := by
        rcases htx2 with e | e
        · exact absurd e.2.1 h0
        · exact e
      have hpos : 0 < x2.length := List.length_pos_iff.2 h0
      have xl : (0 : Int) < (x2.length : Int) := by omega
      have HBC : Hid (∀ j u, (x2.map Value.string)[j]? = some u → w1.cell? ((⟨b, o, none⟩ : Addr).add j) = some u) := fun j u hu => by
        have hadd : (⟨b, o, none⟩ : Addr).add j = ⟨b, o + j, none⟩ := by unfold Addr.add; split <;> simp_all
        rw [List.getElem?_map] at hu
        obtain ⟨y, hy, rfl⟩ := Option.map_eq_some_iff.1 hu
        rw [hadd]; exact hbc j y hy
      have d6 : w1.cell? ⟨rb, 6, none⟩ = some p.vf := by rw [cell_of_row _ _ _ _ _ _ HP1.out.row]; rfl
      have f6 : w1.frozen? ⟨rb, 6, none⟩ = false := frozen_of_row _ _ _ _ _ HP1.out.row
      have hdl : S.defs.length ≤ 20000000 := by have := HP1.out.ok.defs; omega
      obtain ⟨aof, capf, hvf, _, _⟩ := row_form HP1.out.defs
      have HDF : Hid (w1.ownsRow B 9 1 (.slice aof S.defs.length capf) S.defs.length (S.defs.map Value.string)) := by rw [← hvf]; exact HP1.out.defs
      rw [hvf] at d6
      have HVF : Hid (p.vf = .slice aof S.defs.length capf) := hvf
      clear hvf htx htx2 hbc
      generalize hDL : S.defs.length = DL at *
      have HDL : Hid (S.defs.length = DL) := hDL
      generalize hXL : x2.length = XL at *
      have HXL : Hid (x2.length = XL) := hXL
      clear hDL hXL
      go_wp2_with fail
      refine (need_yes _ _ _).mono ?_
      rintro e w2 ⟨rfl, rfl⟩
      go_wp2_with (at_builtin; refine wpList_append_lies _ rfl (.tmp 21) (.tmp 22) 32 rfl B 9 tj (.string ⟨#[]⟩) 1 16 Tryz.underlying32 HTJ.out.1 HTJ.out.2.2.2 HTJ.out.2.1 HTJ.out.2.2.1 rfl (by decide) _ DL (S.defs.map Value.string) rfl HDF.out ⟨b, o, none⟩ XL pcap (x2.map Value.string) rfl (by rw [List.length_map, HXL.out]; omega) HBC.out (by intro u hu; obtain ⟨y, _, rfl⟩ := List.mem_map.1 hu; rfl) hpos (by unfold maxLen; omega) (by omega) HP1.out.bw _ rfl ?_; intro g7 cap7 w7 hv7 hg7 hat7 hlt7; refine Hid.out ?_)
      have HM : Hid (PStC { p with vf := .slice (some ⟨g7, 0, none⟩) (DL + XL) cap7, c := fun k => if (Value.slice (some ⟨g7, 0, none⟩) (DL + XL) cap7).ownBlock = some k then 6 else p.c k } a B (w7.setCell ⟨rb, 6, none⟩ (.slice (some ⟨g7, 0, none⟩) (DL + XL) cap7)) rb (no : Nat) ls { S with defs := S.defs ++ x2 } m) := by
        refine HP1.out.addDefs (by rw [HVF.out]; exact hg7) (by rw [HDL.out, HXL.out]; exact hv7) ?_ (by rw [HXL.out]; exact hxl)
        intro k hk
        have e : g7 = k := Option.some.inj hk
        subst e
        rw [HVF.out]
        rcases hat7 with e2 | e2
        · exact Or.inl e2
        · right; rw [e2]; exact Nat.le_refl _
      have HB7 : Hid (Below B w (w7.setCell ⟨rb, 6, none⟩ (.slice (some ⟨g7, 0, none⟩) (DL + XL) cap7))) := (HB1.out.grown hg7 HP1.out.bw (fun k hk => (rblock HDF.out k hk).1)).setCell (p := ⟨rb, 6, none⟩) H.out.lowrb _
      have hrow7 : w7.heap[rb]? = w2.heap[rb]? := hg7.block rb HP1.out.rowlt (fun e => by
        have h1 := HP1.out.c6 rb (by rw [HVF.out]; exact e.symm)
        have h2 := HP1.out.c1
        omega)
      have d7 : w7.cell? ⟨rb, 6, none⟩ = some (.slice aof DL capf) := (World.cell?_of_block (w := w2) (a := ⟨rb, 6, none⟩) hrow7).trans d6
      have f7 : w7.frozen? ⟨rb, 6, none⟩ = false := frozen_of_row _ _ _ _ _ (hrow7.trans HP1.out.row)
      clear hv7 hg7 hat7 hlt7 hrow7 d6 f6 HBC HDF
      unfold Hid
      go_wp2_with fail
      go_end0
      rw [HF.out]
      exact ⟨rfl, ⟨_, _, HM.out⟩, HB7.out⟩
end Go.Proofs.YthhbpebihgjpjaaGreatDoor
