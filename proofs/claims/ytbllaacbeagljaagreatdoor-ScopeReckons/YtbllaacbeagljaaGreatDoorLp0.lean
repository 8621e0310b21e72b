/-
  PLAIN: where tokens stand; a text cut ahead of a byte that begins none. No program in it.
-/
import Derived.Test.YtbllaacbeagljaaGreatDoorLx0
namespace Go.Proofs.YtbllaacbeagljaaGreatDoor

/-! ### a text cut short -/
theorem tk_len {zs : List Int} {p : Nat} (hp : p ≤ zs.length) : (zs.take p).length = p := by simp; omega
theorem tk_getD {zs : List Int} {p j : Nat} (h : j < p) : (zs.take p).getD j 0 = zs.getD j 0 := by
  rw [List.getD_eq_getElem?_getD, List.getD_eq_getElem?_getD, List.getElem?_take_of_lt h]
theorem tk_at {zs : List Int} {p j : Nat} (h : j < p) : (zs.take p)[j]? = zs[j]? := List.getElem?_take_of_lt h
theorem tk_none {zs : List Int} {p j : Nat} (h : p ≤ j) : (zs.take p)[j]? = none := List.getElem?_eq_none (by simp; omega)
theorem tk_sub {zs : List Int} {p a b : Nat} (h : b ≤ p) : subL (zs.take p) a b = subL zs a b := by
  unfold subL
  rw [List.take_take, Nat.min_eq_left h]
theorem pasA_take {q : Int → Bool} {zs : List Int} {p : Nat} (hp : p ≤ zs.length) : ∀ k, pasA q zs k ≤ p → pasA q (zs.take p) k = pasA q zs k := by
  refine down (zs := zs) ?_ ?_
  · intro k hk h
    rw [pasA_end hk, pasA_end (by rw [tk_len hp]; omega)]
  · intro k hk ih h
    have hl := tk_len hp
    cases hq : q (zs.getD k 0) with
    | true =>
      rw [pasA_step hk hq] at h ⊢
      have := pasA_ge q zs (k + 1)
      rw [pasA_step (by omega) (by rw [tk_getD (by omega)]; exact hq)]
      exact ih h
    | false =>
      rw [pasA_stop hk hq] at h ⊢
      by_cases hkp : k < p
      · exact pasA_stop (by omega) (by rw [tk_getD hkp]; exact hq)
      · exact pasA_end (by omega)
theorem skA_take {zs : List Int} {p : Nat} (hp : p ≤ zs.length) : ∀ k c, skA c zs k ≤ p → skA c (zs.take p) k = skA c zs k := by
  refine down (zs := zs) ?_ ?_
  · intro k hk c h
    rw [skA_end hk, skA_end (by rw [tk_len hp]; omega)]
  · intro k hk ih c h
    have hl := tk_len hp
    by_cases hc : c = true ∨ isBl (zs.getD k 0) = true ∨ zs.getD k 0 = 35
    · rw [skA_step hk hc] at h ⊢
      have := skA_ge (if zs.getD k 0 = 10 then false else c || decide (zs.getD k 0 = 35)) zs (k + 1)
      have e : (zs.take p).getD k 0 = zs.getD k 0 := tk_getD (by omega)
      rw [skA_step (by omega) (by rw [e]; exact hc), e]
      exact ih _ h
    · have h1 : c = false := by cases c <;> simp_all
      have h2 : isBl (zs.getD k 0) = false := by
        cases q : isBl (zs.getD k 0)
        · rfl
        · exact absurd (.inr (.inl q)) hc
      have h3 : zs.getD k 0 ≠ 35 := fun q => hc (.inr (.inr q))
      subst h1
      rw [skA_stop hk h2 h3] at h ⊢
      by_cases hkp : k < p
      · have e : (zs.take p).getD k 0 = zs.getD k 0 := tk_getD hkp
        exact skA_stop (by omega) (by rw [e]; exact h2) (by rw [e]; exact h3)
      · exact skA_end (by omega)
theorem innA_take {zs : List Int} {p : Nat} (hp : p ≤ zs.length) : ∀ k o, (innA o zs k).2 = 0 → (innA o zs k).1 < p → innA o (zs.take p) k = innA o zs k := by
  refine down (zs := zs) ?_ ?_
  · intro k hk o h
    rw [innA_end hk] at h
    cases h
  · intro k hk ih o h0 h1
    have hl := tk_len hp
    have hge := innA_ge o zs k
    have hkp : k < p := by omega
    have e : (zs.take p).getD k 0 = zs.getD k 0 := tk_getD hkp
    rw [innA_eq hk] at h0 h1 ⊢
    rw [innA_eq (zs := zs.take p) (by omega), e]
    by_cases q0 : o = 2
    · rw [if_pos q0] at h0 h1 ⊢
      rw [if_pos q0]
      exact ih _ h0 h1
    rw [if_neg q0] at h0 h1 ⊢
    rw [if_neg q0]
    by_cases q1 : o = 1 ∧ zs.getD k 0 = 125
    · rw [if_pos q1] at h0 h1 ⊢
      rw [if_pos q1]
      exact ih _ h0 h1
    rw [if_neg q1] at h0 h1 ⊢
    rw [if_neg q1]
    by_cases q2 : isPn (zs.getD k 0) = true
    · rw [if_pos q2] at h0 h1 ⊢
      rw [if_pos q2]
      exact ih _ h0 h1
    rw [if_neg q2] at h0 h1 ⊢
    rw [if_neg q2]
    by_cases q3 : o = 0 ∧ zs.getD k 0 = 34
    · rw [if_pos q3, if_pos q3]
    rw [if_neg q3] at h0 h1 ⊢
    rw [if_neg q3]
    by_cases q4 : o = 0 ∧ zs.getD k 0 = 36 ∧ zs[k + 1]? = some 123
    · rw [if_pos q4] at h0 h1 ⊢
      have := innA_ge 2 zs (k + 1)
      rw [tk_at (by omega), if_pos q4]
      exact ih _ h0 h1
    · rw [if_neg q4] at h0
      cases h0
theorem inn_closed {zs : List Int} : ∀ k o, (innA o zs k).2 = 0 → zs.getD (innA o zs k).1 0 = 34 := by
  refine down (zs := zs) ?_ ?_
  · intro k hk o h
    rw [innA_end hk] at h
    cases h
  · intro k hk ih o h0
    rw [innA_eq hk] at h0 ⊢
    by_cases q0 : o = 2
    · rw [if_pos q0] at h0 ⊢; exact ih _ h0
    rw [if_neg q0] at h0 ⊢
    by_cases q1 : o = 1 ∧ zs.getD k 0 = 125
    · rw [if_pos q1] at h0 ⊢; exact ih _ h0
    rw [if_neg q1] at h0 ⊢
    by_cases q2 : isPn (zs.getD k 0) = true
    · rw [if_pos q2] at h0 ⊢; exact ih _ h0
    rw [if_neg q2] at h0 ⊢
    by_cases q3 : o = 0 ∧ zs.getD k 0 = 34
    · rw [if_pos q3]; exact q3.2
    rw [if_neg q3] at h0 ⊢
    by_cases q4 : o = 0 ∧ zs.getD k 0 = 36 ∧ zs[k + 1]? = some 123
    · rw [if_pos q4] at h0 ⊢; exact ih _ h0
    · rw [if_neg q4] at h0; cases h0
theorem nb_take {zs : List Int} {p k : Nat} (hp : p ≤ zs.length) (h : nbE zs k ≤ p) (hw : wdAt zs (nbE zs k) = false) : dgE (zs.take p) k = dgE zs k ∧ nbT (zs.take p) k = nbT zs k ∧ nbE (zs.take p) k = nbE zs k ∧ wdAt (zs.take p) (nbE zs k) = false := by
  have h1 := unE_ge zs (dgE zs k)
  unfold nbE at h hw
  have hd : dgE (zs.take p) k = dgE zs k := pasA_take hp k (show dgE zs k ≤ p by omega)
  have hv : nbV (zs.take p) k = nbV zs k := by unfold nbV; rw [hd, tk_sub (by omega)]
  have hu : unU (zs.take p) (dgE zs k) = unU zs (dgE zs k) ∧ unE (zs.take p) (dgE zs k) = unE zs (dgE zs k) := by
    by_cases hlt : dgE zs k < p
    · unfold unU unE; rw [tk_at hlt]; exact ⟨rfl, rfl⟩
    · unfold unU unE at *
      rw [tk_none (by omega)]
      have hn : ¬ (zs[dgE zs k]? = some 75 ∨ zs[dgE zs k]? = some 77) := fun e => by rw [if_pos e] at h; omega
      rw [if_neg hn, if_neg (fun e => hn (.inl e)), if_neg (fun e => hn (.inr e))]
      exact ⟨rfl, rfl⟩
  refine ⟨hd, by unfold nbT; rw [hv, hd, hu.1], by unfold nbE; rw [hd, hu.2], ?_⟩
  unfold nbE
  by_cases hlt : unE zs (dgE zs k) < p
  · unfold wdAt at *; rw [tk_at hlt]; exact hw
  · unfold wdAt; rw [tk_none (by omega)]
/-- a token that ends there is the same -/
theorem tokA_take {zs : List Int} {p k : Nat} (hp : p ≤ zs.length) (hk : k < p) (h0 : (tokA zs k).2.2 = 0) (h1 : (tokA zs k).2.1 ≤ p) : tokA (zs.take p) k = tokA zs k := by
  have e : (zs.take p).getD k 0 = zs.getD k 0 := tk_getD hk
  unfold tokA at h0 h1 ⊢
  rw [e]
  by_cases q0 : isLet (zs.getD k 0) = true
  · rw [if_pos q0] at h1 ⊢
    rw [if_pos q0, pasA_take hp k h1, tk_sub h1]
  rw [if_neg q0] at h0 h1 ⊢
  rw [if_neg q0]
  by_cases q1 : isDig (zs.getD k 0) = true
  · rw [if_pos q1] at h0 h1 ⊢
    rw [if_pos q1]
    by_cases q2 : 1099511627776 < nbT zs k ∨ wdAt zs (nbE zs k) = true
    · rw [if_pos q2] at h0; cases h0
    · rw [if_neg q2] at h1 ⊢
      have hw : wdAt zs (nbE zs k) = false := by
        cases hw : wdAt zs (nbE zs k)
        · rfl
        · exact absurd (.inr hw) q2
      obtain ⟨_, n2, n3, n4⟩ := nb_take hp h1 hw
      rw [n2, n3, if_neg (fun h => by rcases h with h | h; exact q2 (.inl h); rw [n4] at h; cases h)]
  rw [if_neg q1] at h0 h1 ⊢
  rw [if_neg q1]
  by_cases q2 : zs.getD k 0 = 34
  · rw [if_pos q2] at h0 h1 ⊢
    rw [if_pos q2]
    by_cases q3 : (innA 0 zs (k + 1)).2 = 0
    · rw [if_pos q3] at h1 ⊢
      have h1' : (innA 0 zs (k + 1)).1 + 1 ≤ p := h1
      rw [innA_take hp (k + 1) 0 q3 (by omega), if_pos q3, tk_sub (by omega)]
    rw [if_neg q3] at h0
    by_cases q4 : (innA 0 zs (k + 1)).2 = 1
    · rw [if_pos q4] at h0; cases h0
    · rw [if_neg q4] at h0; cases h0
  rw [if_neg q2] at h0 h1 ⊢
  rw [if_neg q2]
  by_cases q3 : isMk (zs.getD k 0) = true
  · rw [if_pos q3] at h1 ⊢
    rw [if_pos q3, tk_sub h1]
  · rw [if_neg q3] at h0; cases h0
theorem nxtA_take {zs : List Int} {p k c : Nat} (hp : p ≤ zs.length) (hk : k < p) (h0 : (nxtA zs k c).2.2 = 0) (h1 : (nxtA zs k c).2.1 ≤ p) : nxtA (zs.take p) k c = nxtA zs k c := by
  unfold nxtA at h0 h1 ⊢
  split
  · rfl
  · rename_i q
    rw [if_neg q] at h0 h1
    exact tokA_take hp hk h0 h1
theorem nxt_byte {zs : List Int} {k c : Nat} (h : (nxtA zs k c).2.2 = 181) : (nxtA zs k c).2.1 = k := by
  unfold nxtA at h ⊢
  split
  · rfl
  rename_i q
  rw [if_neg q] at h
  unfold tokA at h ⊢
  split
  · rename_i q1; rw [if_pos q1] at h; cases h
  rename_i q1
  rw [if_neg q1] at h
  split
  · rename_i q2
    rw [if_pos q2] at h
    split
    · rfl
    · rename_i q3; rw [if_neg q3] at h; cases h
  rename_i q2
  rw [if_neg q2] at h
  split
  · rename_i q3
    rw [if_pos q3] at h
    split
    · rename_i q4; rw [if_pos q4] at h; cases h
    rename_i q4
    rw [if_neg q4] at h
    split
    · rename_i q5; rw [if_pos q5] at h; cases h
    · rfl
  rename_i q3
  rw [if_neg q3] at h
  split
  · rename_i q4; rw [if_pos q4] at h; cases h
  · rfl
theorem fin_err {t : Tk} {r : List Tk × Nat × Int} (h : (fin [t] r).2.2 ≠ 0) : (fin [t] r).2 = r.2 := by
  unfold fin at h ⊢
  by_cases q : r.2.2 = 0
  · rw [if_pos q] at h; exact absurd rfl h
  · rw [if_neg q]
theorem byte_cut : ∀ (f : Nat) (zs : List Int) (k c : Nat), k ≤ zs.length → (lexF f zs k c).2.2 = 181 → k ≤ (lexF f zs k c).2.1 ∧ (lexF f zs k c).2.1 < zs.length ∧ (lexA (zs.take (lexF f zs k c).2.1) k c).2.2 = 0
  | 0, zs, k, c, hk, h => by simp [lexF] at h
  | f + 1, zs, k, c, hk, h => by
    have hs := skA_ge false zs k
    simp only [lexF] at h ⊢
    by_cases q0 : zs.length ≤ skA false zs k
    · rw [if_pos q0] at h; cases h
    rw [if_neg q0] at h ⊢
    by_cases q1 : (nxtA zs (skA false zs k) c).2.2 = 0
    · rw [if_pos q1] at h ⊢
      have hn := nxtA_ok (by omega) q1
      have he := fin_err (t := (nxtA zs (skA false zs k) c).1) (r := lexF f zs (nxtA zs (skA false zs k) c).2.1 (c + 1)) (by rw [h]; decide)
      rw [he] at h ⊢
      have ih := byte_cut f zs (nxtA zs (skA false zs k) c).2.1 (c + 1) hn.2 h
      refine ⟨by omega, ih.2.1, ?_⟩
      generalize (lexF f zs (nxtA zs (skA false zs k) c).2.1 (c + 1)).2.1 = p at *
      have hp : p ≤ zs.length := by omega
      have hl := tk_len hp
      have e1 : skA false (zs.take p) k = skA false zs k := skA_take hp k false (by omega)
      have e2 := nxtA_take (c := c) hp (show skA false zs k < p by omega) q1 ih.1
      rw [lexA_ok (by omega) (by rw [e1]; omega) (by rw [e1, e2]; exact q1), e1, e2]
      unfold fin
      rw [if_pos ih.2.2]
    · rw [if_neg q1] at h ⊢
      have hb := nxt_byte (show (nxtA zs (skA false zs k) c).2.2 = 181 from h)
      refine ⟨by show k ≤ (nxtA zs (skA false zs k) c).2.1; omega, by show (nxtA zs (skA false zs k) c).2.1 < _; omega, ?_⟩
      show (lexA (zs.take (nxtA zs (skA false zs k) c).2.1) k c).2.2 = 0
      rw [hb]
      have hp : skA false zs k ≤ zs.length := by omega
      rw [lexA_end]
      rw [tk_len hp, skA_take hp k false (Nat.le_refl _)]
      exact Nat.le_refl _
/-- the text ahead of a byte that begins no token is taken -/
theorem lexP_byte {zs : List Int} (h : (lexP zs).2.2 = 181) : (lexP zs).2.1 < zs.length ∧ (lexP (zs.take (lexP zs).2.1)).2.2 = 0 := by
  unfold lexP at h
  by_cases q : 65536 < zs.length
  · rw [if_pos q] at h; cases h
  rw [if_neg q] at h
  have hb := byte_cut _ zs 0 0 (Nat.zero_le _) h
  have e : lexP zs = lexA zs 0 0 := by unfold lexP; rw [if_neg q]
  rw [e]
  refine ⟨hb.2.1, ?_⟩
  unfold lexP
  rw [if_neg (by rw [List.length_take]; omega)]
  exact hb.2.2

/-! ### where tokens stand -/
def endT (t : Tk) (p : Nat) : Nat := p + t.tx.length + (if t.k = 2 then 2 else if t.k = 3 then 1 else 0)
structure Fit (zs : List Int) (t : Tk) (p : Nat) : Prop where
  at_ : t.a = p
  lt : p < zs.length
  en : endT t p ≤ zs.length
  kd : t.k = 1 ∨ t.k = 2 ∨ t.k = 3 ∨ t.k = 4
  wd : t.k = 1 ∨ t.k = 4 → subL zs p (p + t.tx.length) = t.tx
  nm : t.k = 2 → subL zs p (p + t.tx.length + 2) = 34 :: (t.tx ++ [34])
  nb : t.k = 3 → t.tx = [] ∧ 48 ≤ zs.getD p 0 ∧ zs.getD p 0 ≤ 57
theorem sub_len {zs : List Int} {a b : Nat} (h : b ≤ zs.length) : (subL zs a b).length = b - a := by unfold subL; simp; omega
theorem sub_snoc {zs : List Int} {a b : Nat} (h : b < zs.length) (hab : a ≤ b) : subL zs a (b + 1) = subL zs a b ++ [zs.getD b 0] := by
  unfold subL
  rw [List.take_succ_eq_append_getElem h, List.drop_append_of_le_length (by simp; omega)]
  simp [h]
theorem sub_cons {zs : List Int} {a b : Nat} (h : a < b) (hb : b ≤ zs.length) : subL zs a b = zs.getD a 0 :: subL zs (a + 1) b := by
  unfold subL
  rw [drop_cons (by simp; omega), tk_getD h]
theorem tok_fit {zs : List Int} {k : Nat} (hk : k < zs.length) (h0 : (tokA zs k).2.2 = 0) : Fit zs (tokA zs k).1 k ∧ endT (tokA zs k).1 k ≤ (tokA zs k).2.1 := by
  have hok := tokA_ok hk h0
  unfold tokA at h0 hok ⊢
  by_cases q0 : isLet (zs.getD k 0) = true
  · rw [if_pos q0] at hok ⊢
    have hok1 : k < pasA isWd zs k ∧ pasA isWd zs k ≤ zs.length := hok
    have hl := sub_len (zs := zs) (a := k) (b := pasA isWd zs k) hok1.2
    have he : endT ⟨1, subL zs k (pasA isWd zs k), 0, k⟩ k = pasA isWd zs k := by unfold endT; simp [hl]; omega
    refine ⟨⟨rfl, hk, by rw [he]; exact hok1.2, .inl rfl, fun _ => ?_, fun h => (by cases h), fun h => (by cases h)⟩, Nat.le_of_eq he⟩
    show subL zs k (k + (subL zs k (pasA isWd zs k)).length) = _
    rw [hl, show k + (pasA isWd zs k - k) = pasA isWd zs k by omega]
  rw [if_neg q0] at h0 hok ⊢
  by_cases q1 : isDig (zs.getD k 0) = true
  · rw [if_pos q1] at h0 hok ⊢
    by_cases q2 : 1099511627776 < nbT zs k ∨ wdAt zs (nbE zs k) = true
    · rw [if_pos q2] at h0; cases h0
    · rw [if_neg q2] at hok ⊢
      have hok1 : k < nbE zs k ∧ nbE zs k ≤ zs.length := hok
      have he : endT ⟨3, [], nbT zs k, k⟩ k = k + 1 := by unfold endT; simp
      refine ⟨⟨rfl, hk, by rw [he]; omega, .inr (.inr (.inl rfl)), fun h => (by rcases h with h | h <;> cases h), fun h => (by cases h), fun _ => ⟨rfl, ?_⟩⟩, by rw [he]; show _ ≤ nbE zs k; omega⟩
      simpa [isDig] using q1
  rw [if_neg q1] at h0 hok ⊢
  by_cases q2 : zs.getD k 0 = 34
  · rw [if_pos q2] at h0 hok ⊢
    by_cases q3 : (innA 0 zs (k + 1)).2 = 0
    · rw [if_pos q3] at hok ⊢
      have hc := inn_closed (k + 1) 0 q3
      have hg := innA_ge 0 zs (k + 1)
      generalize (innA 0 zs (k + 1)).1 = j at *
      have hok1 : k < j + 1 ∧ j + 1 ≤ zs.length := hok
      have hl := sub_len (zs := zs) (a := k + 1) (b := j) (by omega)
      have he : endT ⟨2, subL zs (k + 1) j, 0, k⟩ k = j + 1 := by unfold endT; simp [hl]; omega
      refine ⟨⟨rfl, hk, by rw [he]; exact hok1.2, .inr (.inl rfl), fun h => (by rcases h with h | h <;> cases h), fun _ => ?_, fun h => (by cases h)⟩, Nat.le_of_eq he⟩
      show subL zs k (k + (subL zs (k + 1) j).length + 2) = _
      rw [hl, show k + (j - (k + 1)) + 2 = j + 1 by omega, sub_cons (by omega) hok1.2, sub_snoc (by omega) hg, q2, hc]
    rw [if_neg q3] at h0
    by_cases q4 : (innA 0 zs (k + 1)).2 = 1
    · rw [if_pos q4] at h0; cases h0
    · rw [if_neg q4] at h0; cases h0
  rw [if_neg q2] at h0 hok ⊢
  by_cases q3 : isMk (zs.getD k 0) = true
  · rw [if_pos q3] at hok ⊢
    have hl := sub_len (zs := zs) (a := k) (b := k + 1) hk
    have he : endT ⟨4, subL zs k (k + 1), 0, k⟩ k = k + 1 := by unfold endT; simp [hl]
    refine ⟨⟨rfl, hk, by rw [he]; exact hk, .inr (.inr (.inr rfl)), fun _ => ?_, fun h => (by cases h), fun h => (by cases h)⟩, Nat.le_of_eq he⟩
    show subL zs k (k + (subL zs k (k + 1)).length) = _
    rw [hl, show k + (k + 1 - k) = k + 1 by omega]
  · rw [if_neg q3] at h0; cases h0
def Plc (zs : List Int) : Nat → List Tk → Prop
  | _, [] => True
  | e, t :: ts => ∃ p, e ≤ p ∧ Fit zs t p ∧ Plc zs (endT t p) ts
theorem Plc.mono {zs : List Int} : ∀ {ts : List Tk} {e e' : Nat}, Plc zs e ts → e' ≤ e → Plc zs e' ts
  | [], _, _, _, _ => trivial
  | _ :: _, _, _, ⟨p, h1, h2, h3⟩, h => ⟨p, Nat.le_trans h h1, h2, h3⟩
theorem lexF_plc : ∀ (f : Nat) (zs : List Int) (k c : Nat), (lexF f zs k c).2.2 = 0 → Plc zs k (lexF f zs k c).1
  | 0, _, _, _, _ => trivial
  | f + 1, zs, k, c, h => by
    have hs := skA_ge false zs k
    simp only [lexF] at h ⊢
    by_cases q0 : zs.length ≤ skA false zs k
    · rw [if_pos q0]; trivial
    rw [if_neg q0] at h ⊢
    by_cases q1 : (nxtA zs (skA false zs k) c).2.2 = 0
    · rw [if_pos q1] at h ⊢
      unfold fin at h ⊢
      by_cases q2 : (lexF f zs (nxtA zs (skA false zs k) c).2.1 (c + 1)).2.2 = 0
      · rw [if_pos q2]
        have ih := lexF_plc f zs _ _ q2
        have hn : nxtA zs (skA false zs k) c = tokA zs (skA false zs k) := by
          unfold nxtA at q1 ⊢
          split
          · rename_i q; rw [if_pos q] at q1; cases q1
          · rfl
        have hf := tok_fit (zs := zs) (k := skA false zs k) (by omega) (by rw [← hn]; exact q1)
        rw [← hn] at hf
        exact ⟨skA false zs k, hs, hf.1, ih.mono hf.2⟩
      · rw [if_neg q2] at h; exact absurd h q2
    · rw [if_neg q1] at h; exact absurd h q1
theorem lexP_plc {zs : List Int} (h : (lexP zs).2.2 = 0) : Plc zs 0 (lexP zs).1 := by
  unfold lexP at h ⊢
  split
  · trivial
  · rename_i q
    rw [if_neg q] at h
    exact lexF_plc _ _ _ _ h
/-! ### errors -/
theorem err_le : ∀ (f : Nat) (zs : List Int) (k c : Nat), k ≤ zs.length → (lexF f zs k c).2.1 ≤ zs.length
  | 0, zs, _, _, _ => Nat.zero_le _
  | f + 1, zs, k, c, hk => by
    simp only [lexF]
    split
    · exact Nat.zero_le _
    rename_i q0
    split
    · rename_i q1
      have hn := nxtA_ok (by omega) q1
      have ih := err_le f zs (nxtA zs (skA false zs k) c).2.1 (c + 1) hn.2
      unfold fin
      split
      · exact Nat.zero_le _
      · exact ih
    · show (nxtA zs (skA false zs k) c).2.1 ≤ _
      unfold nxtA
      split
      · show skA false zs k ≤ _; omega
      unfold tokA
      split
      · exact pasA_le (by omega)
      split
      · split
        · show skA false zs k ≤ _; omega
        · exact unE_le (pasA_le (by omega))
      split
      · rename_i q2
        have hi := innA_le (o := 0) (zs := zs) (k := skA false zs k + 1) (by omega)
        split
        · rename_i q3
          have := innA_lt zs (skA false zs k + 1) 0 (by omega) (by omega)
          show _ + 1 ≤ _; omega
        split
        · exact hi
        · show skA false zs k ≤ _; omega
      split
      · show skA false zs k + 1 ≤ _; omega
      · show skA false zs k ≤ _; omega
theorem lexP_le (zs : List Int) : (lexP zs).2.1 ≤ zs.length := by
  unfold lexP
  split
  · exact Nat.zero_le _
  · exact err_le _ _ _ _ (Nat.zero_le _)

end Go.Proofs.YtbllaacbeagljaaGreatDoor
