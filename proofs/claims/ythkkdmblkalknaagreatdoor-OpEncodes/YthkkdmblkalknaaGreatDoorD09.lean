import Derived.Test.YthkkdmblkalknaaGreatDoorC02
/-
  A list of lists of operations, as an argument: opened, with its bulk.
-/
namespace Go.Proofs.YthkkdmblkalknaaGreatDoor
open Go.RowKit Go.ChangeShapes Go.WideShapes Go.ChangeAt Go.Deep

/-- lists of operations -/
theorem open_opsum {H : Type} {enc : TypeId × Value → H} {W : World} {a : Option Addr} {len cap : Nat} {d : DataW H} {p : List MemPlace} (h : DataW.Trod enc Tryz.prog W 0 (fun _ => true) true 51 (.slice a len cap) d p) (hbk : Rows.uptoBulk d ≤ 1048576) :
    ∃ oss : List (List PO), oss.length = len ∧ RdLs W.heap.size W a oss ∧ len ≤ 1048576 ∧ (oss.map blk).sum ≤ 1048576 := by
  obtain ⟨fuel, hf⟩ := h
  rcases open_slice Tryz.underlying51 hf with ⟨hcs, hx⟩ | ⟨x, l, c, m, n, D, Pl, hcs, hb, hl, hm, hmm, hx, hall⟩
  · simp [Value.cells] at hcs
    obtain ⟨rfl, rfl, rfl⟩ := hcs
    exact ⟨[], rfl, .inl rfl, by omega, by simp⟩
  · simp [Value.cells] at hcs
    obtain ⟨rfl, rfl, rfl⟩ := hcs
    have hm' : m = cap := by simpa using hmm
    subst hm'
    simp only [Prod.mk.injEq] at hx
    obtain ⟨rfl, _⟩ := hx
    have hbk' : Rows.uptoBulkAll ((List.range len).map D) ≤ 1048576 := by simp only [Rows.uptoBulk] at hbk; omega
    have hcnt : ∀ (l : List Nat), l.length ≤ Rows.uptoBulkAll (l.map D) := by
      intro l
      induction l with
      | nil => simp [Rows.uptoBulkAll]
      | cons i l ih =>
        have := bulk_one (D i)
        simp only [List.map_cons, Rows.uptoBulkAll, List.length_cons]
        omega
    have each : ∀ i, i < len → ∃ os : List PO, blk os ≤ Rows.uptoBulk (D i) ∧ ∃ (a : Option Addr) (c : Nat), W.cell? (x.add i) = some (.slice a os.length c) ∧ RdO W.heap.size W a os ∧ (a = none → c = 0) := by
      intro i hi
      obtain ⟨cs', e1, e2⟩ := hall i (by omega)
      rw [co22, Nat.mul_one] at e1
      have hDi : Rows.uptoBulk (D i) ≤ 1048576 := Nat.le_trans (bulk_mem (List.mem_map.2 ⟨i, List.mem_range.2 hi, rfl⟩)) hbk'
      obtain ⟨a, n', c', rfl, hn⟩ := sl_form Tryz.underlying22 e2
      obtain ⟨_, _, hcell⟩ := World.cells?_some e1
      have hc0 := hcell 0 (by omega)
      obtain ⟨os, rfl, hR, hbo⟩ := open_ops (a := a) (len := n') (cap := c') ⟨_, by simpa [Value.cells] using e2⟩ hDi
      refine ⟨os, hbo, a, c', ?_, hR, hn⟩
      rw [add_add] at hc0
      simpa using hc0
    have : Inhabited (List PO) := ⟨[]⟩
    obtain ⟨q, hq⟩ := choose_lt each
    refine ⟨(List.range len).map q, by simp, ?_, by have := hcnt (List.range len); simp only [List.length_range] at this; omega, ?_⟩
    · by_cases h0 : len = 0
      · exact .inl (by rw [h0]; rfl)
      · obtain ⟨_, _, _, e00, _⟩ := hq 0 (by omega)
        obtain ⟨b, off, rfl⟩ := spot_none e00
        clear e00
        refine .inr ⟨b, off, rfl, ?_, fun t ht => ?_⟩
        · obtain ⟨_, _, _, e, _⟩ := hq 0 (by omega)
          rw [add_plain] at e
          exact World.block_lt_of_cell? W ⟨b, off, none⟩ (by simpa using e)
        · simp only [List.length_map, List.length_range] at ht
          obtain ⟨_, a, c, e, hR, hn⟩ := hq t ht
          rw [add_plain] at e
          simp only [List.getElem_map, List.getElem_range]
          exact ⟨a, c, e, hR, hn⟩
    · have key : ∀ (l : List Nat), (∀ i ∈ l, i < len) → ((l.map q).map blk).sum ≤ Rows.uptoBulkAll (l.map D) := by
        intro l
        induction l with
        | nil => intro _; simp [Rows.uptoBulkAll]
        | cons i l ih =>
          intro hl'
          have h1 := ih (fun j hj => hl' j (by simp [hj]))
          have h2 := (hq i (hl' i (by simp))).1
          simp only [List.map_cons, List.sum_cons, Rows.uptoBulkAll]
          omega
      have := key (List.range len) (fun i hi => List.mem_range.1 hi)
      omega

end Go.Proofs.YthkkdmblkalknaaGreatDoor
