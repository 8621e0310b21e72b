/-
  PLAIN: circles.
-/
import Derived.Test.YtajnokkmpjdliaaOr0
namespace Go.Proofs.Ytajnokkmpjdliaa
open Go.RowKit

/-- a circle of the edges -/
structure Ring (n : Nat) (E : List (Nat × Nat)) (l : List Nat) : Prop where
  ne : 0 < l.length
  nd : l.Nodup
  lt : ∀ x ∈ l, x < n
  ed : ∀ i, i < l.length → (l.getD i 0, l.getD ((i + 1) % l.length) 0) ∈ E

/-- never ready -/
def Stk (n : Nat) (E : List (Nat × Nat)) (x : Nat) : Prop := x < n ∧ cnt E (ordP n E) x ≠ 0
theorem arr_kn {n : Nat} {E : List (Nat × Nat)} : ∀ (f : Nat) (out : List Nat), Kn n E out → f = n - out.length → Kn n E (arr n E f out) ∧ ((arr n E f out).length = n ∨ nxt n E (arr n E f out) = none)
  | 0, out, h, hf => by
    have := h.len
    exact ⟨h, .inl (by simp only [arr]; omega)⟩
  | f + 1, out, h, hf => by
    simp only [arr]
    split
    · rename_i hx
      exact ⟨h, .inr hx⟩
    · rename_i x hx
      have h2 := h.next hx
      exact arr_kn f _ h2 (by rw [List.length_append, List.length_singleton]; omega)
theorem ord_kn (n : Nat) (E : List (Nat × Nat)) : Kn n E (ordP n E) ∧ ((ordP n E).length = n ∨ nxt n E (ordP n E) = none) := arr_kn n [] (Kn.start n E) (by simp)
theorem ord_in {n : Nat} {E : List (Nat × Nat)} {x : Nat} (hx : x < n) : x ∈ ordP n E ↔ cnt E (ordP n E) x = 0 := by
  obtain ⟨h1, h2⟩ := ord_kn n E
  constructor
  · intro h; exact h1.no x h
  · intro h
    rcases h2 with h2 | h2
    · exact h1.all h2 x hx
    · by_cases e : x ∈ ordP n E
      · exact e
      · exact absurd ⟨e, h⟩ (nxt_none.1 h2 x hx)
theorem stk_iff {n : Nat} {E : List (Nat × Nat)} {x : Nat} (hx : x < n) : Stk n E x ↔ x ∉ ordP n E := by
  unfold Stk
  rw [ord_in hx]
  simp [hx]
theorem stk_before {n : Nat} {E : List (Nat × Nat)} {x : Nat} (hE : EdOk n E) (h : Stk n E x) : ∃ e ∈ E, e.2 = x ∧ Stk n E e.1 := by
  obtain ⟨hx, h0⟩ := h
  by_cases q : ∃ e ∈ E, e.2 = x ∧ e.1 ∉ ordP n E
  · obtain ⟨e, h1, h2, h3⟩ := q
    exact ⟨e, h1, h2, (stk_iff (hE e h1).1).2 h3⟩
  · exfalso
    apply h0
    rw [cnt_zero]
    intro e h1 h2
    by_cases r : e.1 ∈ ordP n E
    · exact r
    · exact absurd ⟨e, h1, h2, r⟩ q
theorem stk_after {n : Nat} {E : List (Nat × Nat)} {e : Nat × Nat} (hE : EdOk n E) (he : e ∈ E) (h : Stk n E e.1) : Stk n E e.2 := by
  refine ⟨(hE e he).2, fun h0 => ?_⟩
  exact (stk_iff (hE e he).1).1 h (cnt_zero.1 h0 e he rfl)
theorem cover_len : ∀ (n : Nat) (P : List Nat), (∀ x, x < n → x ∈ P) → n ≤ P.length
  | 0, _, _ => Nat.zero_le _
  | n + 1, P, h => by
    have h1 := h n (by omega)
    have h2 := cover_len n (P.erase n) (fun x hx => (List.mem_erase_of_ne (by omega)).2 (h x (by omega)))
    rw [List.length_erase_of_mem h1] at h2
    have := List.length_pos_of_mem h1
    omega
theorem stk_some {n : Nat} {E : List (Nat × Nat)} (hE : EdOk n E) : (ordP n E).length < n ↔ ∃ e ∈ E, Stk n E e.1 := by
  have hk := (ord_kn n E).1
  constructor
  · intro h
    have : ∃ x, x < n ∧ x ∉ ordP n E := by
      by_cases q : ∃ x, x < n ∧ x ∉ ordP n E
      · exact q
      · exfalso
        have h2 : ∀ x, x < n → x ∈ ordP n E := fun x hx => by
          by_cases r : x ∈ ordP n E
          · exact r
          · exact absurd ⟨x, hx, r⟩ q
        have h4 := cover_len n _ h2
        omega
    obtain ⟨x, hx, hno⟩ := this
    obtain ⟨e, h1, _, h3⟩ := stk_before hE ((stk_iff hx).2 hno)
    exact ⟨e, h1, h3⟩
  · rintro ⟨e, h1, h2⟩
    have hlt := (hE e h1).1
    have hno := (stk_iff hlt).1 h2
    rcases Nat.lt_or_ge (ordP n E).length n with h | h
    · exact h
    · exact absurd (hk.all (by have := hk.len; omega) e.1 hlt) hno

/-- what each waits for, as far as the edges were looked at -/
structure AhS (n : Nat) (E : List (Nat × Nat)) (i : Nat) (ah : List Int) (t : Int) : Prop where
  l : ah.length = n
  h : ∀ y, y < n → (∃ j, j < i ∧ (eg E j).2 = y ∧ Stk n E (eg E j).1) → ∃ x : Nat, gt ah y = x ∧ Stk n E x ∧ (x, y) ∈ E
  t0 : (∀ j, j < i → ¬ Stk n E (eg E j).1) → t = -1
  t1 : (∃ j, j < i ∧ Stk n E (eg E j).1) → ∃ x : Nat, t = x ∧ Stk n E x
theorem AhS.start (n : Nat) (E : List (Nat × Nat)) : AhS n E 0 (zeros n) (-1) := ⟨by simp [zeros], fun y _ ⟨j, hj, _⟩ => by omega, fun _ => rfl, fun ⟨j, hj, _⟩ => by omega⟩
theorem AhS.no {n : Nat} {E : List (Nat × Nat)} {i : Nat} {ah : List Int} {t : Int} (h : AhS n E i ah t) (hs : ¬ Stk n E (eg E i).1) : AhS n E (i + 1) ah t := by
  refine ⟨h.l, fun y hy ⟨j, hj, h1, h2⟩ => h.h y hy ⟨j, ?_, h1, h2⟩, fun q => h.t0 fun j hj => q j (by omega), fun ⟨j, hj, h2⟩ => h.t1 ⟨j, ?_, h2⟩⟩
  · by_cases e : j = i
    · subst e; exact absurd h2 hs
    · omega
  · by_cases e : j = i
    · subst e; exact absurd h2 hs
    · omega
theorem AhS.yes {n : Nat} {E : List (Nat × Nat)} (hE : EdOk n E) {i : Nat} {ah : List Int} {t : Int} (h : AhS n E i ah t) (hi : i < E.length) (hs : Stk n E (eg E i).1) : AhS n E (i + 1) (ah.set (eg E i).2 ((eg E i).1 : Int)) ((eg E i).2 : Int) := by
  have hm := eg_mem E hi
  have hlt := (hE _ hm).2
  refine ⟨by rw [List.length_set]; exact h.l, fun y hy ⟨j, hj, h1, h2⟩ => ?_, fun q => absurd hs (q i (by omega)), fun _ => ⟨(eg E i).2, rfl, stk_after hE hm hs⟩⟩
  rw [gt_set _ _ _ _ (by rw [h.l]; exact hlt)]
  by_cases e : y = (eg E i).2
  · rw [if_pos e]
    exact ⟨(eg E i).1, rfl, hs, by rw [e]; exact hm⟩
  · rw [if_neg e]
    refine h.h y hy ⟨j, ?_, h1, h2⟩
    by_cases e2 : j = i
    · subst e2; exact absurd h1.symm e
    · omega
theorem AhS.all {n : Nat} {E : List (Nat × Nat)} (hE : EdOk n E) {ah : List Int} {t : Int} (h : AhS n E E.length ah t) : ∀ y, Stk n E y → ∃ x : Nat, gt ah y = x ∧ Stk n E x ∧ (x, y) ∈ E := fun y hy => by
  obtain ⟨e, h1, h2, h3⟩ := stk_before hE hy
  obtain ⟨j, hj, rfl⟩ := List.getElem_of_mem h1
  exact h.h y hy.1 ⟨j, hj, by rw [eg_get E hj]; exact h2, by rw [eg_get E hj]; exact h3⟩

/-- the way that is gone -/
structure PaS (n : Nat) (E : List (Nat × Nat)) (ah mt : List Int) (p : List Nat) (t : Nat) : Prop where
  ml : mt.length = n
  nd : p.Nodup
  st : ∀ x ∈ p, Stk n E x
  ts : Stk n E t
  m : ∀ x, x < n → (x ∉ p → gt mt x = -1) ∧ ∀ i, i < p.length → p.getD i 0 = x → gt mt x = i
  nx : ∀ i, i + 1 < p.length → gt ah (p.getD i 0) = (p.getD (i + 1) 0 : Nat)
  la : 0 < p.length → gt ah (p.getD (p.length - 1) 0) = (t : Nat)
theorem PaS.start {n : Nat} {E : List (Nat × Nat)} {ah : List Int} {t : Nat} (h : Stk n E t) : PaS n E ah (rep n (-1)) [] t :=
  ⟨by simp [rep], List.nodup_nil, (fun x hx => by cases hx), h, fun x hx => ⟨fun _ => by simp [gt, rep, List.getD_eq_getElem?_getD, hx], (fun i hi => by simp at hi)⟩, (fun i hi => by simp at hi), (fun h0 => by simp at h0)⟩
theorem getD_mem {p : List Nat} {i : Nat} (h : i < p.length) : p.getD i 0 ∈ p := by
  rw [List.getD_eq_getElem?_getD, List.getElem?_eq_getElem h]
  exact List.getElem_mem h
theorem PaS.step {n : Nat} {E : List (Nat × Nat)} {ah mt : List Int} {p : List Nat} {t : Nat} (h : PaS n E ah mt p t) (hA : ∀ y, Stk n E y → ∃ x : Nat, gt ah y = x ∧ Stk n E x ∧ (x, y) ∈ E) (h0 : gt mt t < 0) : ∃ x : Nat, gt ah t = x ∧ PaS n E ah (mt.set t (p.length : Int)) (p ++ [t]) x := by
  obtain ⟨x, hx, hxs, _⟩ := hA t h.ts
  have htn : t ∉ p := fun hm => by
    obtain ⟨i, hi, e⟩ := List.getElem_of_mem hm
    have := (h.m t h.ts.1).2 i hi (by rw [List.getD_eq_getElem?_getD, List.getElem?_eq_getElem hi]; exact e)
    omega
  have gl : ∀ i, i < p.length → (p ++ [t]).getD i 0 = p.getD i 0 := fun i hi => by
    rw [List.getD_eq_getElem?_getD, List.getD_eq_getElem?_getD, List.getElem?_append_left hi]
  have ge : (p ++ [t]).getD p.length 0 = t := by
    rw [List.getD_eq_getElem?_getD, List.getElem?_append_right (Nat.le_refl _)]
    simp
  refine ⟨x, hx, by rw [List.length_set]; exact h.ml, snoc_nd h.nd htn, fun y hy => ?_, hxs, fun y hy => ⟨fun hn => ?_, fun i hi e => ?_⟩, fun i hi => ?_, fun _ => ?_⟩
  · rcases List.mem_append.1 hy with q | q
    · exact h.st y q
    · simp at q; rw [q]; exact h.ts
  · simp at hn
    rw [gt_set _ _ _ _ (by rw [h.ml]; exact h.ts.1), if_neg hn.2]
    exact (h.m y hy).1 hn.1
  · rw [List.length_append, List.length_singleton] at hi
    rw [gt_set _ _ _ _ (by rw [h.ml]; exact h.ts.1)]
    by_cases q : i = p.length
    · rw [q, ge] at e
      rw [if_pos e.symm, q]
    · have hi2 : i < p.length := by omega
      rw [gl i hi2] at e
      rw [if_neg (fun e2 => htn (by rw [← e2, ← e]; exact getD_mem hi2))]
      exact (h.m y hy).2 i hi2 e
  · rw [List.length_append, List.length_singleton] at hi
    rw [gl i (by omega)]
    by_cases q : i + 1 = p.length
    · rw [q, ge]
      have := h.la (by omega)
      rw [show p.length - 1 = i by omega] at this
      exact this
    · rw [gl (i + 1) (by omega)]
      exact h.nx i (by omega)
  · rw [List.length_append, List.length_singleton, Nat.add_sub_cancel, ge]
    exact hx
theorem PaS.len {n : Nat} {E : List (Nat × Nat)} {ah mt : List Int} {p : List Nat} {t : Nat} (h : PaS n E ah mt p t) : p.length ≤ n := nodup_len h.nd fun x hx => (h.st x hx).1
theorem PaS.ring {n : Nat} {E : List (Nat × Nat)} {ah mt : List Int} {p : List Nat} {t : Nat} (h : PaS n E ah mt p t) (hA : ∀ y, Stk n E y → ∃ x : Nat, gt ah y = x ∧ Stk n E x ∧ (x, y) ∈ E) (h0 : ¬ gt mt t < 0) : ∃ k : Nat, gt mt t = k ∧ k < p.length ∧ Ring n E (p.drop k).reverse := by
  have hmem : t ∈ p := by
    by_cases e : t ∈ p
    · exact e
    · have := (h.m t h.ts.1).1 e
      omega
  obtain ⟨k, hk, e⟩ := List.getElem_of_mem hmem
  have e' : p.getD k 0 = t := by rw [List.getD_eq_getElem?_getD, List.getElem?_eq_getElem hk]; exact e
  have hg := (h.m t h.ts.1).2 k hk e'
  have hl : (p.drop k).reverse.length = p.length - k := by simp
  have at_ : ∀ i, i < p.length - k → (p.drop k).reverse.getD i 0 = p.getD (p.length - 1 - i) 0 := fun i hi => by
    rw [List.getD_eq_getElem?_getD, List.getD_eq_getElem?_getD, List.getElem?_reverse (by simp; omega), List.getElem?_drop]
    simp only [List.length_drop]
    rw [show k + (p.length - k - 1 - i) = p.length - 1 - i by omega]
  refine ⟨k, hg, hk, by rw [hl]; omega, ?_, fun x hx => ?_, fun i hi => ?_⟩
  · unfold List.Nodup
    rw [List.pairwise_reverse]
    exact (h.nd.sublist (List.drop_sublist k p)).imp fun h e => h e.symm
  · rw [List.mem_reverse] at hx
    exact (h.st x (List.mem_of_mem_drop hx)).1
  · rw [hl] at hi ⊢
    have step : ∀ j : Nat, j < p.length → ∀ z : Nat, gt ah (p.getD j 0) = z → (z, p.getD j 0) ∈ E := fun j hj z hz => by
      obtain ⟨x, h1, _, h3⟩ := hA _ (h.st _ (getD_mem hj))
      have : x = z := by omega
      rw [← this]; exact h3
    rw [at_ i hi]
    by_cases q : i + 1 = p.length - k
    · rw [q, Nat.mod_self, at_ 0 (by omega)]
      have h9 := step (p.length - 1) (by omega) t (h.la (by omega))
      rw [show p.length - 1 - i = k by omega, e']
      exact h9
    · rw [Nat.mod_eq_of_lt (by omega), at_ (i + 1) (by omega)]
      have h9 := step (p.length - 1 - (i + 1)) (by omega) _ (h.nx (p.length - 1 - (i + 1)) (by omega))
      rw [show p.length - 1 - (i + 1) + 1 = p.length - 1 - i by omega] at h9
      exact h9
end Go.Proofs.Ytajnokkmpjdliaa
