/-
  Arguments, opened: cases of FieldStamps.
-/
import Derived.Test.YteaebdonnicbkaaOpn2
import Derived.Test.YteaebdonnicbkaaStV
namespace Go.Proofs.Yteaebdonnicbkaa
open Go.ChangeShapes Go.WideShapes Go.ChangeAt Go.RowKit Go.Deep

/-- bytes that came in, by their cell -/
theorem open_bc {H : Type} {enc : TypeId × Value → H} {W : World} {v : Value} {fuel : Nat} {x : DataW H × List MemPlace} (hf : DataW.trod enc Try.prog W 0 (fun _ => true) true fuel 22 [v] = some x) :
    ∃ a n c zs, v = .slice a n c ∧ (a = none → c = 0) ∧ Rd W.heap.size W a n zs ∧ n ≤ Rows.uptoBulk x.1 := by
  rcases open_ints Try.underlying22 Try.underlying5 (by kernel_rfl) hf with ⟨hcs, hx⟩ | ⟨x', l, c, zs, hcs, hp, hl, hm, hz, hx, hcell, hwz⟩
  · simp at hcs
    subst hcs
    exact ⟨none, 0, 0, [], rfl, fun _ => rfl, ⟨rfl, Pl.isB_nil, .inl rfl⟩, by omega⟩
  · simp at hcs
    subst hcs
    have hz' : zs.length = c := by simpa using hz
    refine ⟨some x', l, c, zs.take l, rfl, fun h => (by cases h), rd_of_open hl hz' hcell hwz, ?_⟩
    rw [hx]
    have := bulk_slice (H := H) (lits .u8 (zs.take l)) (lits .u8 (zs.drop l))
    simp only [lits, List.length_map, List.length_take] at this
    simp only [lits]
    omega
theorem bulk_map {H : Type} (D : Nat → DataW H) (c : Nat) : ∀ (n : Nat), (∀ i, i < n → c ≤ Rows.uptoBulk (D i)) → n * c ≤ Rows.uptoBulkAll ((List.range n).map D) := by
  have key : ∀ (l : List Nat), (∀ i ∈ l, c ≤ Rows.uptoBulk (D i)) → l.length * c ≤ Rows.uptoBulkAll (l.map D) := by
    intro l
    induction l with
    | nil => intro _; simp
    | cons i r ih =>
      intro h
      have h1 := h i (by simp)
      have h2 := ih (fun j hj => h j (by simp [hj]))
      simp only [List.map_cons, Rows.uptoBulkAll, List.length_cons, Nat.add_mul, Nat.one_mul]
      omega
  intro n h
  have := key (List.range n) (fun i hi => h i (List.mem_range.1 hi))
  simpa using this

/-- a slice of structs of three fields of one cell each -/
theorem open_three {H : Type} {enc : TypeId × Value → H} {P : Program} {w : World} {base : Nat} {spare : Nat → Bool} {held : Bool} {t e : TypeId} {f0 f1 f2 : Field} {fuel : Nat} {cs : List Value} {x : DataW H × List MemPlace}
    (ht : P.underlying t = some (.slice e)) (he : P.underlying e = some (.struct #[f0, f1, f2])) (ce : P.cellsOf e = 3) (o0 : f0.offset = 0) (o1 : f1.offset = 1) (o2 : f2.offset = 2) (c0 : P.cellsOf f0.type = 1) (c1 : P.cellsOf f1.type = 1) (c2 : P.cellsOf f2.type = 1)
    (h : DataW.trod enc P w base spare held fuel t cs = some x) :
    (cs = [.slice none 0 0] ∧ x = (.nil, [])) ∨
    ∃ (a : Addr) (len cap m n : Nat) (D : Nat → DataW H), cs = [.slice (some a) len cap] ∧ len ≤ cap ∧ m = (if spare a.block then cap else len) ∧ x.1 = .slice ((List.range len).map D) ((List.range (m - len)).map fun j => D (len + j)) ∧
      ∀ i, i < m → ∃ (v0 v1 v2 : Value) (y0 y1 y2 : DataW H × List MemPlace), w.cell? (a.add (i * 3)) = some v0 ∧ w.cell? (a.add (i * 3 + 1)) = some v1 ∧ w.cell? (a.add (i * 3 + 2)) = some v2 ∧
        DataW.trod enc P w base spare held (n - 1) f0.type [v0] = some y0 ∧ DataW.trod enc P w base spare held (n - 1) f1.type [v1] = some y1 ∧ DataW.trod enc P w base spare held (n - 1) f2.type [v2] = some y2 ∧ D i = .agg [y0.1, y1.1, y2.1] := by
  rcases open_slice ht h with h0 | ⟨a, len, cap, m, n, D, Pl, rfl, hb, hl, hm, hmm, rfl, hx⟩
  · exact Or.inl h0
  refine .inr ⟨a, len, cap, m, n, D, rfl, hl, hmm, rfl, ?_⟩
  intro i hi
  obtain ⟨cs', h1, h2⟩ := hx i hi
  rw [ce] at h1
  obtain ⟨_, hlen, hcell⟩ := World.cells?_some h1
  obtain ⟨xs, k, hk, hxy, _, hxl, hf⟩ := DataW.trod_struct he h2
  have hk' : k = n - 1 := by omega
  subst hk'
  match xs, hxl, cs', hlen with
  | [y0, y1, y2], _, [v0, v1, v2], _ =>
    have g0 := hf 0 f0 rfl
    have g1 := hf 1 f1 rfl
    have g2 := hf 2 f2 rfl
    simp [o0, o1, o2, c0, c1, c2] at g0 g1 g2
    have e0 := hcell 0 (by omega)
    have e1 := hcell 1 (by omega)
    have e2 := hcell 2 (by omega)
    rw [add_add] at e0 e1 e2
    simp only [Prod.mk.injEq] at hxy
    exact ⟨v0, v1, v2, y0, y1, y2, by simpa using e0, by simpa using e1, by simpa using e2, g0, g1, g2, by simpa using hxy.1⟩

theorem open_st {H : Type} {enc : TypeId × Value → H} {W : World} {a : Option Addr} {len cap : Nat} {d : DataW H} {p : List MemPlace} (h : DataW.Trod enc Try.prog W 0 (fun _ => true) true 75 (.slice a len cap) d p) (hbk : Rows.uptoBulk d ≤ 1048576) :
    len ≤ 262144 ∧ (len = 0 ∨ ∃ b off K S A N C Z, a = some ⟨b, off, none⟩ ∧ Cas W.heap.size W b off len K S A N C Z) := by
  obtain ⟨fuel, hf⟩ := h
  rcases open_three Try.underlying75 Try.underlying77 (by kernel_rfl) rfl rfl rfl (by kernel_rfl) (by kernel_rfl) (by kernel_rfl) hf with ⟨hcs, hx⟩ | ⟨x, l, c, m, n, D, hcs, hl, hmm, hx, hall⟩
  · simp [Value.cells] at hcs
    obtain ⟨rfl, rfl, rfl⟩ := hcs
    exact ⟨by omega, .inl rfl⟩
  · simp [Value.cells] at hcs
    obtain ⟨rfl, rfl, rfl⟩ := hcs
    have hm' : m = cap := by simpa using hmm
    subst hm'
    have each : ∀ i, i < len → ∃ q : (Int × Int) × (Option Addr × Nat × Nat) × List Int, W.cell? (x.add (i * 3)) = some (.int .i64 q.1.1) ∧ W.cell? (x.add (i * 3 + 1)) = some (.int .i64 q.1.2) ∧ W.cell? (x.add (i * 3 + 2)) = some (.slice q.2.1.1 q.2.1.2.1 q.2.1.2.2) ∧
        (q.2.1.1 = none → q.2.1.2.2 = 0) ∧ Rd W.heap.size W q.2.1.1 q.2.1.2.1 q.2.2 ∧ 4 ≤ Rows.uptoBulk (D i) ∧ q.2.1.2.1 ≤ Rows.uptoBulk (D i) := by
      intro i hi
      obtain ⟨v0, v1, v2, y0, y1, y2, e0, e1, e2, t0, t1, t2, hD⟩ := hall i (by omega)
      obtain ⟨q0, eq0, _, _⟩ := DataW.trod_int Try.underlying3 t0
      obtain ⟨q1, eq1, _, _⟩ := DataW.trod_int Try.underlying3 t1
      simp at eq0 eq1
      subst eq0 eq1
      obtain ⟨aa, nn, cc, zs, rfl, hnil, hR, hn⟩ := open_bc t2
      refine ⟨((q0, q1), (aa, nn, cc), zs), e0, e1, e2, hnil, hR, ?_, ?_⟩
      · rw [hD]
        have b0 := bulk_one y0.1
        have b1 := bulk_one y1.1
        have b2 := bulk_one y2.1
        simp only [Rows.uptoBulk, Rows.uptoBulkAll]
        omega
      · rw [hD]
        simp only [Rows.uptoBulk, Rows.uptoBulkAll]
        show nn ≤ _
        omega
    obtain ⟨q, hq⟩ := choose_lt each
    have hsum : len * 4 + 1 ≤ Rows.uptoBulk d ∧ ∀ i, i < len → Rows.uptoBulk (D i) ≤ Rows.uptoBulk d := by
      rw [show d = .slice ((List.range len).map D) ((List.range (m - len)).map fun j => D (len + j)) from hx]
      simp only [Rows.uptoBulk]
      have h1 := bulk_map D 4 len (fun i hi => (hq i hi).2.2.2.2.2.1)
      refine ⟨by omega, fun i hi => ?_⟩
      have := bulk_mem (d := D i) (l := (List.range len).map D) (List.mem_map.2 ⟨i, List.mem_range.2 hi, rfl⟩)
      omega
    refine ⟨by omega, ?_⟩
    by_cases h0 : len = 0
    · exact .inl h0
    · obtain ⟨b, off, rfl⟩ := spot_none (by have := (hq 0 (by omega)).1; simpa using this)
      refine .inr ⟨b, off, fun i => (q i).1.1, fun i => (q i).1.2, fun i => (q i).2.1.1, fun i => (q i).2.1.2.1, fun i => (q i).2.1.2.2, fun i => (q i).2.2, rfl, ?_, ?_, ?_, ?_, ?_, ?_, ?_⟩
      · have := (hq 0 (by omega)).1
        rw [add_plain] at this
        exact World.block_lt_of_cell? W ⟨b, off, none⟩ (by simpa using this)
      · intro i hi; have := (hq i hi).1; rw [add_plain] at this; exact this
      · intro i hi; have := (hq i hi).2.1; rw [add_plain] at this; exact this
      · intro i hi; have := (hq i hi).2.2.1; rw [add_plain] at this; exact this
      · intro i hi; exact (hq i hi).2.2.2.1
      · intro i hi; have h1 := (hq i hi).2.2.2.2.2.2; have h2 := hsum.2 i hi; show (q i).2.1.2.1 ≤ _; omega
      · intro i hi; exact (hq i hi).2.2.2.2.1

end Go.Proofs.Yteaebdonnicbkaa
