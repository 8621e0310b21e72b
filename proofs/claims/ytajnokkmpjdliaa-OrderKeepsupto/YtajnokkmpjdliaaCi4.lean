/-
  Circled: plain, rows of yes and no.
-/
import Derived.Test.YtajnokkmpjdliaaCi3
import Derived.Test.YtajnokkmpjdliaaEd2
namespace Go.Proofs.Ytajnokkmpjdliaa
open Go.RowKit

/-! ### a block of yes and no that is known whole -/
def BlB (w : World) (g : Nat) (ts : List Bool) : Prop := w.heap[g]? = some (.cells (ts.map Value.bool).toArray 4 (0, 0))
theorem BlB.lt {w : World} {g : Nat} {ts : List Bool} (h : BlB w g ts) : g < w.heap.size := (Array.getElem?_eq_some_iff.1 h).1
theorem BlB.cell {w : World} {g : Nat} {ts : List Bool} (h : BlB w g ts) (t : Nat) (ht : t < ts.length) : w.cell? ⟨g, t, none⟩ = some (.bool (ts.getD t false)) := by
  unfold BlB at h
  simp [World.cell?, h, ht]
theorem BlB.frozen {w : World} {g : Nat} {ts : List Bool} (h : BlB w g ts) (t : Nat) : w.frozen? ⟨g, t, none⟩ = false := by
  unfold BlB at h
  simp [World.frozen?, h]
theorem BlB.set {w : World} {g : Nat} {ts : List Bool} (h : BlB w g ts) (t : Nat) (x : Bool) : BlB (w.setCell ⟨g, t, none⟩ (.bool x)) g (ts.set t x) := by
  unfold BlB at *
  simp only [World.setCell, Array.getElem?_modify]
  rw [h]
  simp
theorem BlB.of_block {w w' : World} {g : Nat} {ts : List Bool} (h : BlB w g ts) (hw : w'.heap[g]? = w.heap[g]?) : BlB w' g ts := by
  unfold BlB at *; rw [hw]; exact h
theorem BlB.new (w : World) (ts : List Bool) : BlB (w.alloc (.cells (ts.map Value.bool).toArray 4 (0, 0))) w.heap.size ts := heap_new _ _
theorem info4 : (Try.prog.info? 4).map (fun i => (i.zero, i.size, i.bytes)) = some (some (.bool false), 1, 1) := by kernel_rfl
def nos (n : Nat) : List Bool := List.replicate n false
theorem made_nos (n : Nat) : madeCells #[.bool false] n = ((nos n).map Value.bool).toArray := by
  rw [← Array.toList_inj, toList_madeCells_one]
  simp [nos]
theorem make_b (n : Nat) (hn : n ≤ 1073741824) (u : World) : (Instr.makeSlice 46 (.int .i64 (n : Int)) (.int .i64 (n : Int))).run Try.prog u =
    .ok (.slice (some ⟨u.heap.size, 0, none⟩) n n) (u.alloc (.cells ((nos n).map Value.bool).toArray 4)) := by
  obtain ⟨i0, hi, hz0, hz1, hz2⟩ := info_parts info4
  have h := run_make (P := Try.prog) u 46 4 i0 (.bool false) Try.underlying46 hi hz0 .i64 .i64 (n : Int) (n : Int) (by omega) (Int.le_refl _) (by rw [hz2]; omega) (by omega)
  have e : ((n : Int)).toNat = n := by omega
  rw [e] at h
  rw [← made_nos]
  simpa [hz1, Value.cells] using h

/-! ### where each stands -/
structure PlS (n i : Nat) (l : List Nat) (pl : List Int) : Prop where
  ml : pl.length = n
  on : ∀ j, j < i → gt pl (l.getD j 0) = ((j + 1 : Nat) : Int)
  off : ∀ x, x < n → (∀ j, j < i → l.getD j 0 ≠ x) → gt pl x = 0
theorem PlS.start (n : Nat) (l : List Nat) : PlS n 0 l (zeros n) := ⟨by simp [zeros], fun j hj => by omega, fun x hx _ => by simp [gt, zeros, List.getD_eq_getElem?_getD, hx]⟩
theorem nd_inj {l : List Nat} (h : l.Nodup) {i j : Nat} (hi : i < l.length) (hj : j < l.length) (e : l.getD i 0 = l.getD j 0) : i = j := by
  rw [List.getD_eq_getElem?_getD, List.getD_eq_getElem?_getD, List.getElem?_eq_getElem hi, List.getElem?_eq_getElem hj] at e
  exact (List.getElem_inj h).1 (by simpa using e)
theorem PlS.fresh {n i : Nat} {l : List Nat} {pl : List Int} (h : PlS n i l pl) (hd : l.Nodup) (hn : ∀ x ∈ l, x < n) (hi : i < l.length) : gt pl (l.getD i 0) = 0 :=
  h.off _ (hn _ (getD_mem hi)) fun j hj e => by
    have := nd_inj hd (by omega) hi e
    omega
theorem PlS.step {n i : Nat} {l : List Nat} {pl : List Int} (h : PlS n i l pl) (hd : l.Nodup) (hn : ∀ x ∈ l, x < n) (hi : i < l.length) : PlS n (i + 1) l (pl.set (l.getD i 0) ((i + 1 : Nat) : Int)) := by
  have hlt : l.getD i 0 < pl.length := by rw [h.ml]; exact hn _ (getD_mem hi)
  refine ⟨by rw [List.length_set]; exact h.ml, fun j hj => ?_, fun x hx q => ?_⟩
  · rw [gt_set _ _ _ _ hlt]
    by_cases e : j = i
    · rw [e, if_pos rfl]
    · rw [if_neg (fun e2 => e (nd_inj hd (by omega) hi e2))]
      exact h.on j (by omega)
  · rw [gt_set _ _ _ _ hlt, if_neg (fun e => q i (by omega) e.symm)]
    exact h.off x hx fun j hj => q j (by omega)
theorem PlS.at {n : Nat} {l : List Nat} {pl : List Int} (h : PlS n l.length l pl) {x : Nat} (hx : x < n) : (gt pl x = 0 ∧ ∀ j, j < l.length → l.getD j 0 ≠ x) ∨ ∃ j, j < l.length ∧ l.getD j 0 = x ∧ gt pl x = ((j + 1 : Nat) : Int) := by
  by_cases q : ∃ j, j < l.length ∧ l.getD j 0 = x
  · obtain ⟨j, hj, rfl⟩ := q
    exact .inr ⟨j, hj, rfl, h.on j hj⟩
  · have q2 : ∀ j, j < l.length → l.getD j 0 ≠ x := fun j hj e => q ⟨j, hj, e⟩
    exact .inl ⟨h.off x hx q2, q2⟩
/-! ### the edges that are there -/
structure ThS (E : List (Nat × Nat)) (i : Nat) (l : List Nat) (ts : List Bool) : Prop where
  ml : ts.length = l.length
  on : ∀ j, j < l.length → (∃ i', i' < i ∧ eg E i' = (l.getD j 0, l.getD ((j + 1) % l.length) 0)) → ts.getD j false = true
theorem ThS.start (E : List (Nat × Nat)) (l : List Nat) : ThS E 0 l (nos l.length) := ⟨by simp [nos], fun j _ ⟨i', hi, _⟩ => by omega⟩
theorem ThS.no {E : List (Nat × Nat)} {i : Nat} {l : List Nat} {ts : List Bool} (h : ThS E i l ts) (hno : ∀ j, j < l.length → eg E i ≠ (l.getD j 0, l.getD ((j + 1) % l.length) 0)) : ThS E (i + 1) l ts := by
  refine ⟨h.ml, fun j hj ⟨i', hi, e⟩ => h.on j hj ⟨i', ?_, e⟩⟩
  by_cases q : i' = i
  · rw [q] at e; exact absurd e (hno j hj)
  · omega
theorem ThS.yes {E : List (Nat × Nat)} {i : Nat} {l : List Nat} {ts : List Bool} (h : ThS E i l ts) (hd : l.Nodup) {k : Nat} (hk : k < l.length) (he : (eg E i).1 = l.getD k 0) : ThS E (i + 1) l (ts.set k true) := by
  refine ⟨by rw [List.length_set]; exact h.ml, fun j hj ⟨i', hi, e⟩ => ?_⟩
  rw [List.getD_eq_getElem?_getD, List.getElem?_set]
  by_cases q : k = j
  · rw [if_pos q, if_pos (by rw [h.ml]; exact hk)]
    rfl
  · rw [if_neg q, ← List.getD_eq_getElem?_getD]
    refine h.on j hj ⟨i', ?_, e⟩
    by_cases q2 : i' = i
    · rw [q2] at e
      rw [e] at he
      exact absurd (nd_inj hd hk hj he.symm) q
    · omega
theorem ThS.all {n : Nat} {E : List (Nat × Nat)} {l : List Nat} {ts : List Bool} (h : ThS E E.length l ts) (hR : Ring n E l) : ∀ j, j < l.length → ts.getD j false = true := fun j hj => by
  obtain ⟨i, hi, e⟩ := List.getElem_of_mem (hR.ed j hj)
  exact h.on j hj ⟨i, hi, by rw [eg_get E hi]; exact e⟩
end Go.Proofs.Ytajnokkmpjdliaa
