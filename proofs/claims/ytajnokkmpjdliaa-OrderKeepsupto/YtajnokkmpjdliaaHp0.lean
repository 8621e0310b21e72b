/-
  PLAIN: a heap in a list.
-/
import Derived.WalkKit
namespace Go.Proofs.Ytajnokkmpjdliaa
open Go.RowKit

/-! ### a heap in a list -/
def gt (l : List Int) (k : Nat) : Int := l.getD k 0
theorem gt_of (l : List Int) {k : Nat} (h : k < l.length) : gt l k = l[k] := by simp [gt, h]
def sw (l : List Int) (i j : Nat) : List Int := (l.set i (gt l j)).set j (gt l i)
theorem sw_len (l : List Int) (i j : Nat) : (sw l i j).length = l.length := by simp [sw]
theorem sw_gt (l : List Int) {i j : Nat} (hi : i < l.length) (hj : j < l.length) (k : Nat) : gt (sw l i j) k = if k = j then gt l i else if k = i then gt l j else gt l k := by
  unfold sw gt
  simp only [List.getD_eq_getElem?_getD, List.getElem?_set]
  by_cases h1 : k = j
  · subst h1; simp [hj]
  · by_cases h2 : k = i
    · subst h2
      have h3 : ¬ j = k := fun e => h1 e.symm
      simp [hi, h1, h3]
    · have h3 : ¬ j = k := fun e => h1 e.symm
      have h4 : ¬ i = k := fun e => h2 e.symm
      simp [h1, h2, h3, h4]
theorem sw_perm (l : List Int) {i j : Nat} (hi : i < l.length) (hj : j < l.length) : (sw l i j).Perm l := by
  unfold sw
  rw [gt_of l hi, gt_of l hj]
  exact List.set_set_perm hi hj
/-- no parent is greater, among the first n -/
def IsH (n : Nat) (l : List Int) : Prop := ∀ k, 0 < k → k < n → gt l ((k - 1) / 2) ≤ gt l k
theorem IsH.root {n : Nat} {l : List Int} (h : IsH n l) : ∀ k, k < n → gt l 0 ≤ gt l k := by
  intro k
  induction k using Nat.strongRecOn with
  | ind k ih =>
    intro hk
    by_cases h0 : k = 0
    · subst h0; exact Int.le_refl _
    · exact Int.le_trans (ih ((k - 1) / 2) (by omega) (by omega)) (h k (by omega) hk)
/-- but for the place i, whose children may be less; they are not less than i's parent -/
structure DnH (n i : Nat) (l : List Int) : Prop where
  ord : ∀ k, 0 < k → k < n → (k - 1) / 2 ≠ i → gt l ((k - 1) / 2) ≤ gt l k
  up : ∀ k, 0 < k → k < n → (k - 1) / 2 = i → 0 < i → gt l ((i - 1) / 2) ≤ gt l k
theorem DnH.leaf {n i : Nat} {l : List Int} (h : DnH n i l) (hi : n ≤ 2 * i + 1) : IsH n l := fun k h1 h2 => h.ord k h1 h2 (by omega)
/-- j is the lesser child -/
def Kid (n i j : Nat) (l : List Int) : Prop := j < n ∧ (j = 2 * i + 1 ∨ j = 2 * i + 2) ∧ ∀ k, 0 < k → k < n → (k - 1) / 2 = i → gt l j ≤ gt l k
theorem DnH.done {n i j : Nat} {l : List Int} (h : DnH n i l) (hj : Kid n i j l) (hle : gt l i ≤ gt l j) : IsH n l := fun k h1 h2 => by
  by_cases e : (k - 1) / 2 = i
  · rw [e]; exact Int.le_trans hle (hj.2.2 k h1 h2 e)
  · exact h.ord k h1 h2 e
theorem DnH.step {n i j : Nat} {l : List Int} (h : DnH n i l) (hl : n ≤ l.length) (hj : Kid n i j l) (hlt : gt l j < gt l i) : DnH n j (sw l i j) := by
  obtain ⟨j1, j2, j3⟩ := hj
  have hi : i < n := by omega
  have S := sw_gt l (i := i) (j := j) (by omega) (by omega)
  have hpj : (j - 1) / 2 = i := by omega
  constructor
  · intro k h1 h2 h3
    rw [S, S]
    by_cases e1 : k = j
    · rw [if_neg (by omega), if_pos (by omega), if_pos e1]
      omega
    · rw [if_neg h3, if_neg e1]
      by_cases e2 : (k - 1) / 2 = i
      · rw [if_pos e2, if_neg (by omega)]
        exact j3 k h1 h2 e2
      · rw [if_neg e2]
        by_cases e3 : k = i
        · rw [if_pos e3]
          subst e3
          exact h.up j (by omega) j1 hpj h1
        · rw [if_neg e3]
          exact h.ord k h1 h2 e2
  · intro k h1 h2 h3 h4
    rw [S, S, hpj, if_neg (by omega), if_pos rfl, if_neg (by omega), if_neg (by omega)]
    have := h.ord k h1 h2 (by omega)
    rw [h3] at this
    exact this
theorem DnH.start {n : Nat} {l m : List Int} (h : IsH (n + 1) l) (hm : ∀ k, 0 < k → k < n → gt m k = gt l k) : DnH n 0 m :=
  ⟨fun k h1 h2 h3 => by rw [hm _ (by omega) (by omega), hm k h1 h2]; exact h k h1 (by omega), fun k _ _ _ h => absurd h (by omega)⟩
/-- but for the place j, which may be less than its parent -/
structure UpH (n j : Nat) (l : List Int) : Prop where
  ord : ∀ k, 0 < k → k < n → k ≠ j → gt l ((k - 1) / 2) ≤ gt l k
  up : ∀ k, 0 < k → k < n → (k - 1) / 2 = j → 0 < j → gt l ((j - 1) / 2) ≤ gt l k
theorem UpH.top {n : Nat} {l : List Int} (h : UpH n 0 l) : IsH n l := fun k h1 h2 => h.ord k h1 h2 (by omega)
theorem UpH.done {n j : Nat} {l : List Int} (h : UpH n j l) (hle : gt l ((j - 1) / 2) ≤ gt l j) : IsH n l := fun k h1 h2 => by
  by_cases e : k = j
  · subst e; exact hle
  · exact h.ord k h1 h2 e
theorem UpH.step {n j : Nat} {l : List Int} (h : UpH n j l) (hl : n ≤ l.length) (hj : j < n) (h0 : 0 < j) (hlt : gt l j < gt l ((j - 1) / 2)) : UpH n ((j - 1) / 2) (sw l ((j - 1) / 2) j) := by
  obtain ⟨i, hi⟩ : ∃ i, i = (j - 1) / 2 := ⟨_, rfl⟩
  rw [← hi] at hlt ⊢
  have S := sw_gt l (i := i) (j := j) (by omega) (by omega)
  have hui := h.up
  rw [← hi] at hui
  constructor
  · intro k h1 h2 h3
    rw [S, S]
    by_cases e1 : k = j
    · rw [if_neg (by omega), if_pos (by omega), if_pos e1]
      omega
    · by_cases e2 : (k - 1) / 2 = j
      · rw [if_pos e2, if_neg e1, if_neg h3]
        exact hui k h1 h2 e2 h0
      · rw [if_neg e2, if_neg e1, if_neg h3]
        by_cases e3 : (k - 1) / 2 = i
        · rw [if_pos e3]
          have := h.ord k h1 h2 e1
          rw [e3] at this
          omega
        · rw [if_neg e3]
          exact h.ord k h1 h2 e1
  · intro k h1 h2 h3 h4
    have p1 : gt l ((i - 1) / 2) ≤ gt l i := h.ord i h4 (by omega) (by omega)
    rw [S, S, if_neg (by omega), if_neg (by omega)]
    by_cases e1 : k = j
    · rw [if_pos e1]
      exact p1
    · rw [if_neg e1, if_neg (by omega)]
      have := h.ord k h1 h2 e1
      rw [h3] at this
      omega
theorem UpH.start {n : Nat} {l m : List Int} (h : IsH n l) (hm : ∀ k, k < n → gt m k = gt l k) : UpH (n + 1) n m :=
  ⟨fun k h1 h2 h3 => by rw [hm _ (by omega), hm k (by omega)]; exact h k h1 (by omega), fun k h1 h2 h3 _ => by omega⟩
end Go.Proofs.Ytajnokkmpjdliaa
