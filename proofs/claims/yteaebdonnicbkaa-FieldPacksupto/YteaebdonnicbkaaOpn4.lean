/-
  Arguments, opened: lists of fields (FieldPacks).
-/
import Derived.Test.YteaebdonnicbkaaOpn3
import Derived.Test.YteaebdonnicbkaaPkW
namespace Go.Proofs.Yteaebdonnicbkaa
open Go.ChangeShapes Go.WideShapes Go.ChangeAt Go.RowKit Go.Deep

theorem bulkAll_append {H : Type} (l k : List (DataW H)) : Rows.uptoBulkAll (l ++ k) = Rows.uptoBulkAll l + Rows.uptoBulkAll k := by
  induction l with
  | nil => simp [Rows.uptoBulkAll]
  | cons x r ih => simp only [List.cons_append, Rows.uptoBulkAll, ih]; omega
theorem bulk_sum {H : Type} (D : Nat → DataW H) (f : Nat → Nat) : ∀ (n : Nat), (∀ i, i < n → f i ≤ Rows.uptoBulk (D i)) → sumN f n ≤ Rows.uptoBulkAll ((List.range n).map D) := by
  intro n
  induction n with
  | zero => intro _; simp [sumN]
  | succ n ih =>
    intro h
    have h1 := ih (fun i hi => h i (by omega))
    have h2 := h n (by omega)
    rw [List.range_succ, List.map_append, bulkAll_append]
    simp only [List.map_cons, List.map_nil, Rows.uptoBulkAll, sumN]
    omega
/-- fields that came in, by their cell -/
theorem open_fc {H : Type} {enc : TypeId × Value → H} {W : World} {v : Value} {fuel : Nat} {x : DataW H × List MemPlace} (hf : DataW.trod enc Try.prog W 0 (fun _ => true) true fuel 35 [v] = some x) :
    ∃ a n c fs, v = .slice a n c ∧ (a = none → c = 0) ∧ RdF W.heap.size W a n fs ∧ n + 1 ≤ Rows.uptoBulk x.1 := by
  rcases open_slice_pairs Try.underlying35 Try.underlying38 (by kernel_rfl) rfl rfl (by kernel_rfl) (by kernel_rfl) hf with ⟨hcs, hx⟩ | ⟨x', l, c, m, n, V0, V1, D0, D1, P0, P1, hcs, hp, hl, hm, hmm, hx, hall⟩
  · simp at hcs
    subst hcs
    rw [hx]
    exact ⟨none, 0, 0, [], rfl, fun _ => rfl, ⟨rfl, (by intro f h; cases h), .inl rfl⟩, by simp [Rows.uptoBulk]⟩
  · simp at hcs
    subst hcs
    have hm' : m = c := by simpa using hmm
    subst hm'
    have hV : ∀ i, i < m → (∃ q, V0 i = .int .i64 q ∧ (Lit.int .i64 q).wf = true) ∧ ∃ q, V1 i = .int .i64 q ∧ (Lit.int .i64 q).wf = true := by
      intro i hi
      obtain ⟨_, _, t0, t1⟩ := hall i hi
      obtain ⟨q0, e0, _, w0⟩ := DataW.trod_int Try.underlying3 t0
      obtain ⟨q1, e1, _, w1⟩ := DataW.trod_int Try.underlying3 t1
      simp at e0 e1
      exact ⟨⟨q0, e0, w0⟩, ⟨q1, e1, w1⟩⟩
    refine ⟨some x', l, m, (List.range l).map fun i => (intOf (V0 i), intOf (V1 i)), rfl, fun h => (by cases h), ⟨by simp, ?_, ?_⟩, ?_⟩
    · intro f hf
      simp only [List.mem_map, List.mem_range] at hf
      obtain ⟨i, hi, rfl⟩ := hf
      obtain ⟨_, q, e, hw⟩ := hV i (by omega)
      rw [e]
      exact bounds_i64 hw
    · by_cases h0 : l = 0
      · exact .inl h0
      · obtain ⟨b, off, rfl⟩ := spot_none (by have := (hall 0 (by omega)).1; simpa using this)
        refine .inr ⟨b, off, rfl, World.block_lt_of_cell? W ⟨b, off, none⟩ (by have := (hall 0 (by omega)).1; rw [add_plain] at this; simpa using this), fun t ht => ?_⟩
        obtain ⟨c0, c1, _, _⟩ := hall t (by omega)
        obtain ⟨⟨q0, e0, _⟩, ⟨q1, e1, _⟩⟩ := hV t (by omega)
        rw [add_plain] at c0 c1
        rw [show off + t * 2 + 1 = off + (t * 2 + 1) by omega, c0, c1]
        simp [ht, e0, e1, intOf]
    · rw [hx]
      have := bulk_len ((List.range l).map fun i => DataW.agg (H := H) [D0 i, D1 i])
      simp only [List.length_map, List.length_range] at this
      simp only [Rows.uptoBulk]
      omega

theorem open_ls {H : Type} {enc : TypeId × Value → H} {W : World} {a : Option Addr} {len cap : Nat} {d : DataW H} {p : List MemPlace} (h : DataW.Trod enc Try.prog W 0 (fun _ => true) true 51 (.slice a len cap) d p) (hbk : Rows.uptoBulk d ≤ 1048576) :
    len ≤ 1048576 ∧ (len = 0 ∨ ∃ b off A N C F, a = some ⟨b, off, none⟩ ∧ Lst W.heap.size W b off len A N C F) := by
  obtain ⟨fuel, hf⟩ := h
  rcases open_slice1 Try.underlying51 (by kernel_rfl) hf with ⟨hcs, hx⟩ | ⟨x, l, c, m, n, V, D, Pl, hcs, hb, hl, hm, hmm, hx, hall⟩
  · simp [Value.cells] at hcs
    obtain ⟨rfl, rfl, rfl⟩ := hcs
    exact ⟨by omega, .inl rfl⟩
  · simp [Value.cells] at hcs
    obtain ⟨rfl, rfl, rfl⟩ := hcs
    simp only [Prod.mk.injEq] at hx
    have hm' : m = cap := by simpa using hmm
    subst hm'
    have each : ∀ i, i < len → ∃ q : (Option Addr × Nat × Nat) × List (Int × Int), W.cell? (x.add i) = some (.slice q.1.1 q.1.2.1 q.1.2.2) ∧ (q.1.1 = none → q.1.2.2 = 0) ∧ RdF W.heap.size W q.1.1 q.1.2.1 q.2 ∧ q.1.2.1 + 1 ≤ Rows.uptoBulk (D i) := by
      intro i hi
      obtain ⟨hc, ht⟩ := hall i (by omega)
      obtain ⟨aa, nn, cc, fs, hv, h1, h2, h3⟩ := open_fc ht
      rw [hv] at hc
      exact ⟨((aa, nn, cc), fs), hc, h1, h2, h3⟩
    obtain ⟨q, hq⟩ := choose_lt each
    have hd : d = .slice ((List.range len).map D) ((List.range (m - len)).map fun j => D (len + j)) := hx.1
    have h1 := bulk_len ((List.range len).map D)
    have h2 := bulk_sum D (fun i => (q i).1.2.1) len (fun i hi => by have := (hq i hi).2.2.2; omega)
    have h3 : Rows.uptoBulkAll ((List.range len).map D) ≤ Rows.uptoBulk d := by rw [hd]; simp only [Rows.uptoBulk]; omega
    simp only [List.length_map, List.length_range] at h1
    refine ⟨by omega, ?_⟩
    by_cases h0 : len = 0
    · exact .inl h0
    · obtain ⟨b, off, rfl⟩ := spot_none (by have := (hq 0 (by omega)).1; exact this)
      refine .inr ⟨b, off, fun i => (q i).1.1, fun i => (q i).1.2.1, fun i => (q i).1.2.2, fun i => (q i).2, rfl, ?_, ?_, ?_, ?_, ?_, ?_⟩
      · have := (hq 0 (by omega)).1
        rw [add_plain] at this
        exact World.block_lt_of_cell? W ⟨b, off, none⟩ (by simpa using this)
      · intro i hi; have := (hq i hi).1; rw [add_plain] at this; exact this
      · intro i hi; exact (hq i hi).2.1
      · intro i hi
        have h4 := (hq i hi).2.2.2
        have h5 := bulk_mem (d := D i) (l := (List.range len).map D) (List.mem_map.2 ⟨i, List.mem_range.2 hi, rfl⟩)
        show (q i).1.2.1 ≤ _
        omega
      · intro i hi; exact (hq i hi).2.2.1
      · show sumN (fun i => (q i).1.2.1) len ≤ _
        omega

end Go.Proofs.Yteaebdonnicbkaa
