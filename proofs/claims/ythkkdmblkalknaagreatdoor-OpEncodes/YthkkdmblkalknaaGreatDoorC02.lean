import Derived.Test.YthkkdmblkalknaaGreatDoorA19
import Derived.Test.YthkkdmblkalknaaGreatDoorC01
/-
  A list of lists of operations, as an argument: opened.
-/
namespace Go.Proofs.YthkkdmblkalknaaGreatDoor
open Go.RowKit Go.ChangeShapes Go.WideShapes Go.ChangeAt Go.Deep

theorem co22 : Tryz.prog.cellsOf 22 = 1 := by kernel_rfl
theorem one_of {α : Type} {l : List α} (h : l.length = 1) : ∃ a, l = [a] := by
  match l, h with
  | [a], _ => exact ⟨a, rfl⟩
theorem sl_form {H : Type} {enc : TypeId × Value → H} {W : World} {t e : TypeId} {fuel : Nat} {cs : List Value} {x : DataW H × List MemPlace} (ht : Tryz.prog.underlying t = some (.slice e)) (h : DataW.trod enc Tryz.prog W 0 (fun _ => true) true fuel t cs = some x) : ∃ a n c, cs = [.slice a n c] ∧ (a = none → c = 0) := by
  rcases DataW.trod_slice ht h with ⟨h0, _⟩ | ⟨a, len, cap, elems, rest, n, _, h0, _⟩
  · exact ⟨none, 0, 0, h0, fun _ => rfl⟩
  · exact ⟨some a, len, cap, h0, fun e => by cases e⟩
/-- lists of operations -/
theorem open_opss {H : Type} {enc : TypeId × Value → H} {W : World} {a : Option Addr} {len cap : Nat} {d : DataW H} {p : List MemPlace} (h : DataW.Trod enc Tryz.prog W 0 (fun _ => true) true 51 (.slice a len cap) d p) (hbk : Rows.uptoBulk d ≤ 1048576) :
    ∃ oss : List (List PO), oss.length = len ∧ RdLs W.heap.size W a oss ∧ len ≤ 1048576 ∧ ∀ os ∈ oss, blk os ≤ 1048576 := by
  obtain ⟨fuel, hf⟩ := h
  rcases open_slice Tryz.underlying51 hf with ⟨hcs, hx⟩ | ⟨x, l, c, m, n, D, Pl, hcs, hb, hl, hm, hmm, hx, hall⟩
  · simp [Value.cells] at hcs
    obtain ⟨rfl, rfl, rfl⟩ := hcs
    exact ⟨[], rfl, .inl rfl, by omega, fun os ho => by cases ho⟩
  · simp [Value.cells] at hcs
    obtain ⟨rfl, rfl, rfl⟩ := hcs
    have hm' : m = cap := by simpa using hmm
    subst hm'
    simp only [Prod.mk.injEq] at hx
    obtain ⟨rfl, _⟩ := hx
    have hbk' : Rows.uptoBulkAll ((List.range len).map D) ≤ 1048576 := by simp only [Rows.uptoBulk] at hbk; omega
    have hcnt : ∀ (l : List Nat), l.length ≤ Rows.uptoBulkAll (l.map D) := by
      intro l
      induction l with
      | nil => simp [Rows.uptoBulkAll]
      | cons i l ih =>
        have := bulk_one (D i)
        simp only [List.map_cons, Rows.uptoBulkAll, List.length_cons]
        omega
    have each : ∀ i, i < len → ∃ os : List PO, blk os ≤ 1048576 ∧ ∃ (a : Option Addr) (c : Nat), W.cell? (x.add i) = some (.slice a os.length c) ∧ RdO W.heap.size W a os ∧ (a = none → c = 0) := by
      intro i hi
      obtain ⟨cs', e1, e2⟩ := hall i (by omega)
      rw [co22, Nat.mul_one] at e1
      have hDi : Rows.uptoBulk (D i) ≤ 1048576 := Nat.le_trans (bulk_mem (List.mem_map.2 ⟨i, List.mem_range.2 hi, rfl⟩)) hbk'
      obtain ⟨a, n', c', rfl, hn⟩ := sl_form Tryz.underlying22 e2
      obtain ⟨_, _, hcell⟩ := World.cells?_some e1
      have hc0 := hcell 0 (by omega)
      obtain ⟨os, rfl, hR, hbo⟩ := open_ops (a := a) (len := n') (cap := c') ⟨_, by simpa [Value.cells] using e2⟩ hDi
      refine ⟨os, by omega, a, c', ?_, hR, hn⟩
      rw [add_add] at hc0
      simpa using hc0
    have : Inhabited (List PO) := ⟨[]⟩
    obtain ⟨q, hq⟩ := choose_lt each
    refine ⟨(List.range len).map q, by simp, ?_, by have := hcnt (List.range len); simp only [List.length_range] at this; omega, fun os ho => ?_⟩
    · by_cases h0 : len = 0
      · exact .inl (by rw [h0]; rfl)
      · obtain ⟨_, _, _, e00, _⟩ := hq 0 (by omega)
        obtain ⟨b, off, rfl⟩ := spot_none e00
        clear e00
        refine .inr ⟨b, off, rfl, ?_, fun t ht => ?_⟩
        · obtain ⟨_, _, _, e, _⟩ := hq 0 (by omega)
          rw [add_plain] at e
          exact World.block_lt_of_cell? W ⟨b, off, none⟩ (by simpa using e)
        · simp only [List.length_map, List.length_range] at ht
          obtain ⟨_, a, c, e, hR, hn⟩ := hq t ht
          rw [add_plain] at e
          simp only [List.getElem_map, List.getElem_range]
          exact ⟨a, c, e, hR, hn⟩
    · obtain ⟨i, hi, rfl⟩ := List.mem_map.1 ho
      exact (hq i (List.mem_range.1 hi)).1

end Go.Proofs.YthkkdmblkalknaaGreatDoor
