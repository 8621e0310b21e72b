/-
  Arguments, opened: numbers, fields; what the bound gives.
-/
import Derived.Test.YteaebdonnicbkaaOpn
import Derived.Test.YteaebdonnicbkaaUnp
import Derived.Deep.SlicePairs
namespace Go.Proofs.Yteaebdonnicbkaa
open Go.ChangeShapes Go.WideShapes Go.ChangeAt Go.RowKit Go.Deep

theorem bulk_one {H : Type} (d : DataW H) : 1 ≤ Rows.uptoBulk d := by
  cases d with
  | lit l => cases l <;> simp [Rows.uptoBulk]
  | nil => simp [Rows.uptoBulk]
  | ptr d => simp [Rows.uptoBulk]
  | slice elems spare => simp [Rows.uptoBulk]
  | agg parts => simp [Rows.uptoBulk]
  | iface t d => simp [Rows.uptoBulk]
  | map entries => simp [Rows.uptoBulk]
  | held h => simp [Rows.uptoBulk]
theorem bulk_len {H : Type} (l : List (DataW H)) : l.length ≤ Rows.uptoBulkAll l := by
  induction l with
  | nil => simp [Rows.uptoBulkAll]
  | cons x r ih => have := bulk_one x; simp only [Rows.uptoBulkAll, List.length_cons]; omega
theorem bulk_mem {H : Type} {d : DataW H} {l : List (DataW H)} (h : d ∈ l) : Rows.uptoBulk d ≤ Rows.uptoBulkAll l := by
  induction l with
  | nil => cases h
  | cons x r ih =>
    simp only [Rows.uptoBulkAll]
    cases List.mem_cons.1 h with
    | inl e => subst e; omega
    | inr e => have := ih e; omega
theorem bulk_slice {H : Type} (elems spare : List (DataW H)) : elems.length ≤ Rows.uptoBulk (.slice elems spare) := by
  have h1 := bulk_len elems
  simp only [Rows.uptoBulk]
  omega
set_option maxRecDepth 100000 in
theorem bulk_bound {H : Type} {l : List (DataW H)} (hk : Rows.uptoSmall H l = true) : Rows.uptoBulkAll l ≤ 1048576 := of_decide_eq_true hk

theorem spot_none {W : World} {x : Addr} {v : Value} (h : W.cell? (x.add 0) = some v) : ∃ b off, x = ⟨b, off, none⟩ := by
  obtain ⟨b, off, spot⟩ := x
  have hspot : spot = none := by simpa [Addr.add] using World.cell?_spot h
  subst hspot
  exact ⟨b, off, rfl⟩
theorem add_plain (b off t : Nat) : (⟨b, off, none⟩ : Addr).add t = ⟨b, off + t, none⟩ := by unfold Addr.add; split <;> simp_all

/-- NUMBERS THAT CAME IN -/
theorem open_i {H : Type} {enc : TypeId × Value → H} {W : World} {a : Option Addr} {len cap : Nat} {d : DataW H} {p : List MemPlace} (h : DataW.Trod enc Try.prog W 0 (fun _ => true) true 36 (.slice a len cap) d p) :
    ∃ ws, (a = none → cap = 0) ∧ len ≤ cap ∧ RdI W.heap.size W a len ws ∧ (∀ n ∈ ws, -9223372036854775808 ≤ n ∧ n ≤ 9223372036854775807) ∧ len ≤ Rows.uptoBulk d := by
  obtain ⟨fuel, hf⟩ := h
  rcases open_ints Try.underlying36 Try.underlying3 (by kernel_rfl) hf with ⟨hcs, hx⟩ | ⟨x, l, c, zs, hcs, hp, hl, hm, hz, hx, hcell, hwz⟩
  · simp [Value.cells] at hcs
    obtain ⟨rfl, rfl, rfl⟩ := hcs
    exact ⟨[], fun _ => rfl, Nat.le_refl _, ⟨rfl, .inl rfl⟩, (by intro n h; cases h), by omega⟩
  · simp [Value.cells] at hcs
    obtain ⟨rfl, rfl, rfl⟩ := hcs
    simp only [Prod.mk.injEq] at hx
    have hz' : zs.length = cap := by simpa using hz
    refine ⟨zs.take len, fun h => (by cases h), hl, ⟨by simp; omega, ?_⟩, fun n hn => bounds_i64 (hwz n (List.mem_of_mem_take hn)), ?_⟩
    · by_cases h0 : len = 0
      · exact .inl h0
      · obtain ⟨b, off, rfl⟩ := spot_none (hcell 0 (by omega))
        refine .inr ⟨b, off, rfl, World.block_lt_of_cell? W ⟨b, off, none⟩ (by have := hcell 0 (by omega); rw [add_plain] at this; exact this), fun t ht => ?_⟩
        rw [← add_plain, hcell t (by omega), List.getD_eq_getElem?_getD, List.getD_eq_getElem?_getD, List.getElem?_take_of_lt ht]
    · rw [hx.1]
      have := bulk_slice (H := H) (lits .i64 (zs.take len)) (lits .i64 (zs.drop len))
      simp only [lits, List.length_map, List.length_take] at this
      simp only [lits]
      omega

/-- FIELDS THAT CAME IN -/
theorem open_f {H : Type} {enc : TypeId × Value → H} {W : World} {a : Option Addr} {len cap : Nat} {d : DataW H} {p : List MemPlace} (h : DataW.Trod enc Try.prog W 0 (fun _ => true) true 35 (.slice a len cap) d p) :
    ∃ fs, (a = none → cap = 0) ∧ len ≤ cap ∧ RdF W.heap.size W a len fs ∧ (∀ f ∈ fs, -9223372036854775808 ≤ f.1 ∧ f.1 ≤ 9223372036854775807) ∧ len ≤ Rows.uptoBulk d := by
  obtain ⟨fuel, hf⟩ := h
  rcases open_slice_pairs Try.underlying35 Try.underlying38 (by kernel_rfl) rfl rfl (by kernel_rfl) (by kernel_rfl) hf with ⟨hcs, hx⟩ | ⟨x, l, c, m, n, V0, V1, D0, D1, P0, P1, hcs, hp, hl, hm, hmm, hx, hall⟩
  · simp [Value.cells] at hcs
    obtain ⟨rfl, rfl, rfl⟩ := hcs
    exact ⟨[], fun _ => rfl, Nat.le_refl _, ⟨rfl, (by intro f h; cases h), .inl rfl⟩, (by intro n h; cases h), by omega⟩
  · simp [Value.cells] at hcs
    obtain ⟨rfl, rfl, rfl⟩ := hcs
    simp only [Prod.mk.injEq] at hx
    have hm' : m = cap := by simpa using hmm
    subst hm'
    have hV : ∀ i, i < m → (∃ q, V0 i = .int .i64 q ∧ (Lit.int .i64 q).wf = true) ∧ ∃ q, V1 i = .int .i64 q ∧ (Lit.int .i64 q).wf = true := by
      intro i hi
      obtain ⟨_, _, t0, t1⟩ := hall i hi
      obtain ⟨q0, e0, _, w0⟩ := DataW.trod_int Try.underlying3 t0
      obtain ⟨q1, e1, _, w1⟩ := DataW.trod_int Try.underlying3 t1
      simp at e0 e1
      exact ⟨⟨q0, e0, w0⟩, ⟨q1, e1, w1⟩⟩
    refine ⟨(List.range len).map fun i => (intOf (V0 i), intOf (V1 i)), fun h => (by cases h), hl, ⟨by simp, ?_, ?_⟩, ?_, ?_⟩
    · intro f hf
      simp only [List.mem_map, List.mem_range] at hf
      obtain ⟨i, hi, rfl⟩ := hf
      obtain ⟨_, q, e, hw⟩ := hV i (by omega)
      rw [e]
      exact bounds_i64 hw
    · by_cases h0 : len = 0
      · exact .inl h0
      · obtain ⟨b, off, rfl⟩ := spot_none (by have := (hall 0 (by omega)).1; simpa using this)
        refine .inr ⟨b, off, rfl, World.block_lt_of_cell? W ⟨b, off, none⟩ (by have := (hall 0 (by omega)).1; rw [add_plain] at this; simpa using this), fun t ht => ?_⟩
        obtain ⟨c0, c1, _, _⟩ := hall t (by omega)
        obtain ⟨⟨q0, e0, _⟩, ⟨q1, e1, _⟩⟩ := hV t (by omega)
        rw [add_plain] at c0 c1
        rw [show off + t * 2 + 1 = off + (t * 2 + 1) by omega, c0, c1]
        simp [ht, e0, e1, intOf]
    · intro f hf
      simp only [List.mem_map, List.mem_range] at hf
      obtain ⟨i, hi, rfl⟩ := hf
      obtain ⟨⟨q, e, hw⟩, _⟩ := hV i (by omega)
      rw [e]
      exact bounds_i64 hw
    · rw [hx.1]
      have := bulk_slice (H := H) ((List.range len).map fun i => .agg [D0 i, D1 i]) ((List.range (m - len)).map fun j => .agg [D0 (len + j), D1 (len + j)])
      simp only [List.length_map, List.length_range] at this
      exact this
theorem open_b_bulk {H : Type} {d : DataW H} {len cap : Nat} (hl : len ≤ cap) (hd : (d = .nil ∧ cap = 0) ∨ ∃ all : List Int, d = .slice (lits .u8 (all.take len)) (lits .u8 (all.drop len)) ∧ all.length = cap) : len ≤ Rows.uptoBulk d := by
  rcases hd with ⟨_, h⟩ | ⟨all, rfl, h⟩
  · omega
  · have := bulk_slice (H := H) (lits .u8 (all.take len)) (lits .u8 (all.drop len))
    simp only [lits, List.length_map, List.length_take] at this
    simp only [lits]
    omega

end Go.Proofs.Yteaebdonnicbkaa
