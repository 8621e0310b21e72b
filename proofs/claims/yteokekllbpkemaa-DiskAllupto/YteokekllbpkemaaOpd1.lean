/-
  Arguments, opened: a script, a beginning.
-/
import Derived.Test.YteokekllbpkemaaOpd0
namespace Go.Proofs.Yteokekllbpkemaa
open Go.ChangeShapes Go.WideShapes Go.ChangeAt Go.RowKit Go.Deep

/-- a slice of structs of six fields of one cell each -/
theorem open_six {H : Type} {enc : TypeId × Value → H} {P : Program} {w : World} {base : Nat} {spare : Nat → Bool} {held : Bool} {t e : TypeId} {f0 f1 f2 f3 f4 f5 : Field} {fuel : Nat} {cs : List Value} {x : DataW H × List MemPlace}
    (ht : P.underlying t = some (.slice e)) (he : P.underlying e = some (.struct #[f0, f1, f2, f3, f4, f5])) (ce : P.cellsOf e = 6) (o0 : f0.offset = 0) (o1 : f1.offset = 1) (o2 : f2.offset = 2) (o3 : f3.offset = 3) (o4 : f4.offset = 4) (o5 : f5.offset = 5) (c0 : P.cellsOf f0.type = 1) (c1 : P.cellsOf f1.type = 1) (c2 : P.cellsOf f2.type = 1) (c3 : P.cellsOf f3.type = 1) (c4 : P.cellsOf f4.type = 1) (c5 : P.cellsOf f5.type = 1)
    (h : DataW.trod enc P w base spare held fuel t cs = some x) :
    (cs = [.slice none 0 0] ∧ x = (.nil, [])) ∨
    ∃ (a : Addr) (len cap m n : Nat) (D : Nat → DataW H), cs = [.slice (some a) len cap] ∧ len ≤ cap ∧ m = (if spare a.block then cap else len) ∧ x.1 = .slice ((List.range len).map D) ((List.range (m - len)).map fun j => D (len + j)) ∧
      ∀ i, i < m → ∃ (v0 v1 v2 v3 v4 v5 : Value) (y0 y1 y2 y3 y4 y5 : DataW H × List MemPlace), w.cell? (a.add (i * 6)) = some v0 ∧ w.cell? (a.add (i * 6 + 1)) = some v1 ∧ w.cell? (a.add (i * 6 + 2)) = some v2 ∧ w.cell? (a.add (i * 6 + 3)) = some v3 ∧ w.cell? (a.add (i * 6 + 4)) = some v4 ∧ w.cell? (a.add (i * 6 + 5)) = some v5 ∧
        DataW.trod enc P w base spare held (n - 1) f0.type [v0] = some y0 ∧ DataW.trod enc P w base spare held (n - 1) f1.type [v1] = some y1 ∧ DataW.trod enc P w base spare held (n - 1) f2.type [v2] = some y2 ∧ DataW.trod enc P w base spare held (n - 1) f3.type [v3] = some y3 ∧ DataW.trod enc P w base spare held (n - 1) f4.type [v4] = some y4 ∧ DataW.trod enc P w base spare held (n - 1) f5.type [v5] = some y5 ∧ D i = .agg [y0.1, y1.1, y2.1, y3.1, y4.1, y5.1] := by
  rcases open_slice ht h with h0 | ⟨a, len, cap, m, n, D, Pl, rfl, hb, hl, hm, hmm, rfl, hx⟩
  · exact Or.inl h0
  refine .inr ⟨a, len, cap, m, n, D, rfl, hl, hmm, rfl, ?_⟩
  intro i hi
  obtain ⟨cs', h1, h2⟩ := hx i hi
  rw [ce] at h1
  obtain ⟨_, hlen, hcell⟩ := World.cells?_some h1
  obtain ⟨xs, k, hk, hxy, _, hxl, hf⟩ := DataW.trod_struct he h2
  have hk' : k = n - 1 := by omega
  subst hk'
  match xs, hxl, cs', hlen with
  | [y0, y1, y2, y3, y4, y5], _, [v0, v1, v2, v3, v4, v5], _ =>
    have g0 := hf 0 f0 rfl
    have g1 := hf 1 f1 rfl
    have g2 := hf 2 f2 rfl
    have g3 := hf 3 f3 rfl
    have g4 := hf 4 f4 rfl
    have g5 := hf 5 f5 rfl
    simp [o0, o1, o2, o3, o4, o5, c0, c1, c2, c3, c4, c5] at g0 g1 g2 g3 g4 g5
    have e0 := hcell 0 (by omega)
    have e1 := hcell 1 (by omega)
    have e2 := hcell 2 (by omega)
    have e3 := hcell 3 (by omega)
    have e4 := hcell 4 (by omega)
    have e5 := hcell 5 (by omega)
    rw [add_add] at e0 e1 e2 e3 e4 e5
    simp only [Prod.mk.injEq] at hxy
    exact ⟨v0, v1, v2, v3, v4, v5, y0, y1, y2, y3, y4, y5, by simpa using e0, by simpa using e1, by simpa using e2, by simpa using e3, by simpa using e4, by simpa using e5, g0, g1, g2, g3, g4, g5, by simpa using hxy.1⟩
theorem rdn_of {w : World} {a : Option Addr} {n : Nat} {zs : List Int} (h : Rd w.heap.size w a n zs) : RdN (fun y => w.heap.size ≤ y) w a n zs := ⟨h.1, h.2.1, h.2.2.imp id (fun ⟨b, o, e, l, q⟩ => ⟨b, o, e, l, by omega, q⟩)⟩
theorem rin_of {w : World} {a : Option Addr} {n : Nat} {zs : List Int} (h : RdI w.heap.size w a n zs) : RiN (fun y => w.heap.size ≤ y) w a n zs := ⟨h.1, h.2.imp id (fun ⟨b, o, e, l, q⟩ => ⟨b, o, e, l, by omega, q⟩)⟩
theorem wf_i64 {n : Int} (h : (Lit.int .i64 n).wf = true) : n ≤ 9223372036854775807 := by
  simp [Lit.wf] at h
  omega
theorem open_script {H : Type} {enc : TypeId × Value → H} {W : World} {a : Option Addr} {len cap : Nat} {d : DataW H} {p : List MemPlace} (h : DataW.Trod enc Try.prog W 0 (fun _ => true) true 25 (.slice a len cap) d p) (hbk : Rows.uptoBulk d ≤ 1048576) :
    len ≤ 1048576 ∧ ∃ L, ScrIn W.heap.size W a len L := by
  obtain ⟨fuel, hf⟩ := h
  rcases open_six Try.underlying25 Try.underlying44 (by kernel_rfl) rfl rfl rfl rfl rfl rfl (by kernel_rfl) (by kernel_rfl) (by kernel_rfl) (by kernel_rfl) (by kernel_rfl) (by kernel_rfl) hf with ⟨hcs, hx⟩ | ⟨x, l, c, m, n, D, hcs, hl, hmm, hx, hall⟩
  · simp [Value.cells] at hcs
    obtain ⟨rfl, rfl, rfl⟩ := hcs
    exact ⟨by omega, [], rfl, fun d hd => (by cases hd), .inl rfl⟩
  · simp [Value.cells] at hcs
    obtain ⟨rfl, rfl, rfl⟩ := hcs
    have hm' : m = cap := by simpa using hmm
    subst hm'
    have hsum : len ≤ Rows.uptoBulk d ∧ ∀ i, i < len → Rows.uptoBulk (D i) ≤ Rows.uptoBulk d := by
      rw [show d = .slice ((List.range len).map D) ((List.range (m - len)).map fun j => D (len + j)) from hx]
      have h1 := bulk_slice (H := H) ((List.range len).map D) ((List.range (m - len)).map fun j => D (len + j))
      simp only [List.length_map, List.length_range] at h1
      refine ⟨h1, fun i hi => ?_⟩
      simp only [Rows.uptoBulk]
      have := bulk_mem (d := D i) (l := (List.range len).map D) (List.mem_map.2 ⟨i, List.mem_range.2 hi, rfl⟩)
      omega
    have each : ∀ i, i < len → ∃ q : ActD, (W.cell? (x.add (i * 6)) = some (.int .i64 q.wh) ∧ W.cell? (x.add (i * 6 + 1)) = some (.int .i64 q.kd) ∧ W.cell? (x.add (i * 6 + 2)) = some (.int .i64 q.at_) ∧ W.cell? (x.add (i * 6 + 3)) = some (.int .i64 q.fi) ∧ W.cell? (x.add (i * 6 + 4)) = some (.slice q.aR q.nR q.cR) ∧ W.cell? (x.add (i * 6 + 5)) = some (.slice q.aK q.nK q.cK)) ∧ q.ok W.heap.size W := by
      intro i hi
      obtain ⟨v0, v1, v2, v3, v4, v5, y0, y1, y2, y3, y4, y5, e0, e1, e2, e3, e4, e5, t0, t1, t2, t3, t4, t5, hD⟩ := hall i (by omega)
      obtain ⟨q0, eq0, _, _⟩ := DataW.trod_int Try.underlying3 t0
      obtain ⟨q1, eq1, _, _⟩ := DataW.trod_int Try.underlying3 t1
      obtain ⟨q2, eq2, _, hw2⟩ := DataW.trod_int Try.underlying3 t2
      obtain ⟨q3, eq3, _, _⟩ := DataW.trod_int Try.underlying3 t3
      simp at eq0 eq1 eq2 eq3
      subst eq0 eq1 eq2 eq3
      obtain ⟨aa, nn, cc, zs, rfl, hnil, hcap, hR, hn⟩ := open_bc6 t4
      obtain ⟨a2, n2, c2, ws, rfl, hnil2, hR2, hn2⟩ := open_ic6 t5
      have hb := hsum.2 i hi
      rw [hD] at hb
      simp only [Rows.uptoBulk, Rows.uptoBulkAll] at hb
      exact ⟨⟨q0, q1, q2, q3, aa, nn, cc, a2, n2, c2, zs, ws⟩, ⟨e0, e1, e2, e3, e4, e5⟩, wf_i64 hw2, ⟨by show nn ≤ _; omega, by show n2 ≤ _; omega, hnil, hnil2, rdn_of hR, rin_of hR2⟩⟩
    have : Inhabited ActD := ⟨⟨0, 0, 0, 0, none, 0, 0, none, 0, 0, [], []⟩⟩
    obtain ⟨q, hq⟩ := choose_lt each
    refine ⟨by omega, (List.range len).map q, by simp, fun d hd => ?_, ?_⟩
    · obtain ⟨i, hi, rfl⟩ := List.mem_map.1 hd
      exact (hq i (List.mem_range.1 hi)).2
    · by_cases h0 : len = 0
      · exact .inl h0
      · obtain ⟨b, off, rfl⟩ := spot_none (by have := (hq 0 (by omega)).1.1; simpa using this)
        refine .inr ⟨b, off, rfl, ?_, fun i d hi => ?_⟩
        · have := (hq 0 (by omega)).1.1
          rw [add_plain] at this
          exact World.block_lt_of_cell? W ⟨b, off, none⟩ (by simpa using this)
        · have hil : i < len := by have := (List.getElem?_eq_some_iff.1 hi).1; simpa using this
          have hd : d = q i := by
            rw [List.getElem?_map, List.getElem?_range hil] at hi
            simpa using hi.symm
          subst hd
          have hh := (hq i hil).1
          simp only [add_plain, ← Nat.add_assoc] at hh
          exact hh
/-- a struct of three fields of one cell each -/
theorem open_rec3 {H : Type} {enc : TypeId × Value → H} {P : Program} {w : World} {base : Nat} {spare : Nat → Bool} {held : Bool} {e : TypeId} {f0 f1 f2 : Field} {fuel : Nat} {cs : List Value} {x : DataW H × List MemPlace}
    (he : P.underlying e = some (.struct #[f0, f1, f2])) (ce : P.cellsOf e = 3) (o0 : f0.offset = 0) (o1 : f1.offset = 1) (o2 : f2.offset = 2) (c0 : P.cellsOf f0.type = 1) (c1 : P.cellsOf f1.type = 1) (c2 : P.cellsOf f2.type = 1)
    (h : DataW.trod enc P w base spare held fuel e cs = some x) :
    ∃ (v0 v1 v2 : Value) (y0 y1 y2 : DataW H × List MemPlace) (k : Nat), cs = [v0, v1, v2] ∧ DataW.trod enc P w base spare held k f0.type [v0] = some y0 ∧ DataW.trod enc P w base spare held k f1.type [v1] = some y1 ∧ DataW.trod enc P w base spare held k f2.type [v2] = some y2 ∧ x.1 = .agg [y0.1, y1.1, y2.1] := by
  obtain ⟨xs, k, hk, hxy, hlen, hxl, hf⟩ := DataW.trod_struct he h
  rw [ce] at hlen
  match xs, hxl, cs, hlen with
  | [y0, y1, y2], _, [v0, v1, v2], _ =>
    have g0 := hf 0 f0 rfl
    have g1 := hf 1 f1 rfl
    have g2 := hf 2 f2 rfl
    simp [o0, o1, o2, c0, c1, c2] at g0 g1 g2
    exact ⟨v0, v1, v2, y0, y1, y2, k, rfl, g0, g1, g2, by rw [hxy]; rfl⟩
theorem open_begin {H : Type} {enc : TypeId × Value → H} {W : World} {v : Value} {d : DataW H} {p : List MemPlace} (h : DataW.Trod enc Try.prog W 0 (fun _ => true) true 24 v d p) (hbk : Rows.uptoBulk d ≤ 1048576) :
    ∃ nw bl a n c zs, v = beginV nw bl (.slice a n c) ∧ BegIn W.heap.size W a n c zs := by
  obtain ⟨fuel, hf⟩ := h
  obtain ⟨v0, v1, v2, y0, y1, y2, k, hcs, t0, t1, t2, hx⟩ := open_rec3 Try.underlying24 (by kernel_rfl) rfl rfl rfl (by kernel_rfl) (by kernel_rfl) (by kernel_rfl) hf
  obtain ⟨b0, eq0, _⟩ := DataW.trod_bool Try.underlying4 t0
  obtain ⟨q1, eq1, _, _⟩ := DataW.trod_int Try.underlying3 t1
  simp at eq0 eq1
  subst eq0 eq1
  obtain ⟨aa, nn, cc, zs, rfl, hnil, hcap, hR, hn⟩ := open_bc6 t2
  have hv : v = beginV b0 q1 (.slice aa nn cc) := by
    cases v with
    | agg cs =>
      obtain ⟨cs⟩ := cs
      simp only [Value.cells] at hcs
      unfold beginV
      rw [hcs]
    | _ => simp [Value.cells] at hcs
  refine ⟨b0, q1, aa, nn, cc, zs, hv, ?_, hcap, hR⟩
  have hx' : d = .agg [y0.1, y1.1, y2.1] := hx
  rw [hx'] at hbk
  simp only [Rows.uptoBulk, Rows.uptoBulkAll] at hbk
  omega

end Go.Proofs.Yteokekllbpkemaa
