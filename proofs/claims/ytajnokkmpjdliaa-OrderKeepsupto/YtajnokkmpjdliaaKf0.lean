/-
  PLAIN: what the order keeps: each next thing is the least that is ready.
-/
import Derived.Test.YtajnokkmpjdliaaCi6
namespace Go.Proofs.Ytajnokkmpjdliaa
open Go.RowKit

theorem arr_at {n : Nat} {E : List (Nat × Nat)} : ∀ (f : Nat) (out : List Nat), ∃ r, arr n E f out = out ++ r ∧ ∀ k, k < r.length → nxt n E (out ++ r.take k) = some (r.getD k 0)
  | 0, out => ⟨[], by simp [arr], fun k hk => by simp at hk⟩
  | f + 1, out => by
    simp only [arr]
    split
    · exact ⟨[], by simp, fun k hk => by simp at hk⟩
    · rename_i x hx
      obtain ⟨r, h1, h2⟩ := arr_at (n := n) (E := E) f (out ++ [x])
      refine ⟨x :: r, by rw [h1, List.append_assoc]; rfl, fun k hk => ?_⟩
      cases k with
      | zero => simpa using hx
      | succ k =>
        have := h2 k (by simpa using hk)
        rw [List.append_assoc] at this
        simpa using this
theorem ord_at {n : Nat} {E : List (Nat × Nat)} {k : Nat} (hk : k < (ordP n E).length) : nxt n E ((ordP n E).take k) = some ((ordP n E).getD k 0) := by
  obtain ⟨r, h1, h2⟩ := arr_at (n := n) (E := E) n []
  have h3 : ordP n E = r := by unfold ordP; simpa using h1
  rw [h3] at hk ⊢
  simpa using h2 k hk
theorem mem_take {l : List Nat} {k x : Nat} (h : x ∈ l.take k) : ∃ j, j < k ∧ j < l.length ∧ l.getD j 0 = x := by
  obtain ⟨j, hj, e⟩ := List.getElem_of_mem h
  rw [List.length_take] at hj
  rw [List.getElem_take] at e
  exact ⟨j, by omega, by omega, by rw [List.getD_eq_getElem?_getD, List.getElem?_eq_getElem (by omega)]; exact e⟩
theorem take_mem {l : List Nat} {j k : Nat} (hj : j < k) (hl : j < l.length) : l.getD j 0 ∈ l.take k := by
  rw [List.getD_eq_getElem?_getD, List.getElem?_eq_getElem hl]
  have : (l.take k)[j]'(by rw [List.length_take]; omega) = l[j] := List.getElem_take
  simp only [Option.getD_some]
  rw [← this]
  exact List.getElem_mem _
/-- an edge's ends stand in their order -/
theorem ord_edge {n : Nat} {E : List (Nat × Nat)} {e : Nat × Nat} (he : e ∈ E) {i j : Nat} (hi : i < (ordP n E).length) (hj : j < (ordP n E).length) (h1 : (ordP n E).getD i 0 = e.1) (h2 : (ordP n E).getD j 0 = e.2) : i < j := by
  have hd := (ord_kn n E).1.nd
  obtain ⟨⟨q1, q2, q3⟩, _⟩ := nxt_some.1 (ord_at hj)
  have := cnt_zero.1 q3 e he (by rw [h2])
  obtain ⟨j2, k1, k2, k3⟩ := mem_take this
  have := nd_inj hd hi k2 (by rw [h1, k3])
  omega
/-- what is less and stands behind was held back -/
theorem ord_held {n : Nat} {E : List (Nat × Nat)} {i j : Nat} (hij : i < j) (hj : j < (ordP n E).length) (hlt : (ordP n E).getD j 0 < (ordP n E).getD i 0) : ∃ m k, m < E.length ∧ (eg E m).2 = (ordP n E).getD j 0 ∧ k < (ordP n E).length ∧ (ordP n E).getD k 0 = (eg E m).1 ∧ i ≤ k := by
  have hd := (ord_kn n E).1.nd
  obtain ⟨_, q4⟩ := nxt_some.1 (ord_at (n := n) (E := E) (k := i) (by omega))
  have hnot := q4 _ hlt
  have hno : (ordP n E).getD j 0 ∉ (ordP n E).take i := fun h => by
    obtain ⟨j2, k1, k2, k3⟩ := mem_take h
    have := nd_inj hd k2 hj k3
    omega
  have hc : ¬ ∀ e ∈ E, e.2 = (ordP n E).getD j 0 → e.1 ∈ (ordP n E).take i := fun h => hnot ⟨hno, cnt_zero.2 h⟩
  have : ∃ e ∈ E, e.2 = (ordP n E).getD j 0 ∧ e.1 ∉ (ordP n E).take i := by
    apply Classical.byContradiction
    intro hh
    apply hc
    intro e he h2
    apply Classical.byContradiction
    intro h3
    exact hh ⟨e, he, h2, h3⟩
  obtain ⟨e, he, h2, h3⟩ := this
  obtain ⟨m, hm, rfl⟩ := List.getElem_of_mem he
  have hin : E[m].1 ∈ ordP n E := by
    have hmem : (ordP n E).getD j 0 ∈ ordP n E := getD_mem hj
    exact cnt_zero.1 ((ord_kn n E).1.no _ hmem) _ he h2
  obtain ⟨k, hk, e2⟩ := List.getElem_of_mem hin
  have e3 : (ordP n E).getD k 0 = E[m].1 := by rw [List.getD_eq_getElem?_getD, List.getElem?_eq_getElem hk]; exact e2
  refine ⟨m, k, hm, by rw [eg_get E hm]; exact h2, hk, by rw [eg_get E hm]; exact e3, ?_⟩
  apply Classical.byContradiction
  intro hlt2
  exact h3 (by rw [← e3]; exact take_mem (by omega) hk)

/-! ### from which place on each is ready -/
structure LtS (E : List (Nat × Nat)) (n : Nat) (pos : Nat → Nat) (i : Nat) (lt : List Int) : Prop where
  l : lt.length = n
  h : ∀ j, j < i → ((pos (eg E j).1 + 1 : Nat) : Int) ≤ gt lt (eg E j).2
theorem LtS.start (E : List (Nat × Nat)) (n : Nat) (pos : Nat → Nat) : LtS E n pos 0 (zeros n) := ⟨by simp [zeros], fun j hj => by omega⟩
theorem LtS.step {E : List (Nat × Nat)} {n : Nat} {pos : Nat → Nat} {i : Nat} {lt : List Int} (h : LtS E n pos i lt) {z : Int} (hy : (eg E i).2 < n) (h1 : gt lt (eg E i).2 ≤ z) (h2 : ((pos (eg E i).1 + 1 : Nat) : Int) ≤ z) : LtS E n pos (i + 1) (lt.set (eg E i).2 z) := by
  refine ⟨by rw [List.length_set]; exact h.l, fun j hj => ?_⟩
  rw [gt_set _ _ _ _ (by rw [h.l]; exact hy)]
  by_cases e : (eg E j).2 = (eg E i).2
  · rw [if_pos e]
    by_cases e2 : j = i
    · rw [e2]; exact h2
    · have := h.h j (by omega)
      rw [e] at this
      omega
  · rw [if_neg e]
    by_cases e2 : j = i
    · exact absurd (by rw [e2]) e
    · exact h.h j (by omega)
/-- the place of each -/
structure AtS (n i : Nat) (l : List Nat) (at_ : List Int) : Prop where
  ml : at_.length = n
  on : ∀ j, j < i → gt at_ (l.getD j 0) = (j : Int)
  off : ∀ x, x < n → (∀ j, j < i → l.getD j 0 ≠ x) → gt at_ x = -1
theorem AtS.start {n : Nat} {l : List Nat} {a : List Int} (hl : a.length = n) (h : ∀ x, x < n → gt a x = -1) : AtS n 0 l a := ⟨hl, fun j hj => by omega, fun x hx _ => h x hx⟩
theorem AtS.fresh {n i : Nat} {l : List Nat} {pl : List Int} (h : AtS n i l pl) (hd : l.Nodup) (hn : ∀ x ∈ l, x < n) (hi : i < l.length) : gt pl (l.getD i 0) = -1 :=
  h.off _ (hn _ (getD_mem hi)) fun j hj e => by
    have := nd_inj hd (by omega) hi e
    omega
theorem AtS.step {n i : Nat} {l : List Nat} {pl : List Int} (h : AtS n i l pl) (hd : l.Nodup) (hn : ∀ x ∈ l, x < n) (hi : i < l.length) : AtS n (i + 1) l (pl.set (l.getD i 0) (i : Int)) := by
  have hlt : l.getD i 0 < pl.length := by rw [h.ml]; exact hn _ (getD_mem hi)
  refine ⟨by rw [List.length_set]; exact h.ml, fun j hj => ?_, fun x hx q => ?_⟩
  · rw [gt_set _ _ _ _ hlt]
    by_cases e : j = i
    · rw [e, if_pos rfl]
    · rw [if_neg (fun e2 => e (nd_inj hd (by omega) hi e2))]
      exact h.on j (by omega)
  · rw [gt_set _ _ _ _ hlt, if_neg (fun e => q i (by omega) e.symm)]
    exact h.off x hx fun j hj => q j (by omega)
end Go.Proofs.Ytajnokkmpjdliaa
