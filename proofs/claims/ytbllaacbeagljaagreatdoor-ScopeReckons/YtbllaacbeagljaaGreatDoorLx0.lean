/-
  PLAIN: tokens of a text. No program in it.
-/
import Derived.Test.YtbllaacbeagljaaGreatDoorPlain
namespace Go.Proofs.YtbllaacbeagljaaGreatDoor

/-! ### bytes by kind -/
def isLet (z : Int) : Bool := (decide (97 ≤ z) && decide (z ≤ 122)) || (decide (65 ≤ z) && decide (z ≤ 90)) || decide (z = 95)
def isDig (z : Int) : Bool := decide (48 ≤ z) && decide (z ≤ 57)
def isWd (z : Int) : Bool := isLet z || isDig z
def isBl (z : Int) : Bool := decide (z = 32) || decide (z = 9) || decide (z = 10) || decide (z = 13)
def isLn (z : Int) : Bool := !decide (z = 10)
def isMk (z : Int) : Bool := decide (z = 59) || decide (z = 123) || decide (z = 125) || decide (z = 40) || decide (z = 41) || decide (z = 44) || decide (z = 61) || decide (z = 60) || decide (z = 43) || decide (z = 45) || decide (z = 42) || decide (z = 47) || decide (z = 37)
def isQt (z : Int) : Bool := decide (z = 34) || decide (z = 36) || decide (z = 123) || decide (z = 125)
def isPn (z : Int) : Bool := decide (32 ≤ z) && decide (z ≤ 126) && !isQt z

/-! ### as far as bytes are so -/
def pas (p : Int → Bool) : List Int → Nat
  | [] => 0
  | z :: r => if p z then pas p r + 1 else 0
def pasA (p : Int → Bool) (zs : List Int) (k : Nat) : Nat := k + pas p (zs.drop k)
theorem drop_cons {zs : List Int} {k : Nat} (h : k < zs.length) : zs.drop k = zs.getD k 0 :: zs.drop (k + 1) := by
  rw [List.drop_eq_getElem_cons h]
  simp [h]
theorem pasA_step {p : Int → Bool} {zs : List Int} {k : Nat} (h : k < zs.length) (hp : p (zs.getD k 0) = true) : pasA p zs k = pasA p zs (k + 1) := by
  unfold pasA
  rw [drop_cons h]
  simp only [pas, hp, if_true]
  omega
theorem pasA_stop {p : Int → Bool} {zs : List Int} {k : Nat} (h : k < zs.length) (hp : p (zs.getD k 0) = false) : pasA p zs k = k := by
  unfold pasA
  rw [drop_cons h]
  simp only [pas, hp]
  rfl
theorem pasA_end {p : Int → Bool} {zs : List Int} {k : Nat} (h : zs.length ≤ k) : pasA p zs k = k := by
  unfold pasA
  rw [List.drop_eq_nil_of_le h]
  rfl
theorem pas_le (p : Int → Bool) : ∀ l, pas p l ≤ l.length
  | [] => Nat.le_refl _
  | z :: r => by
    have := pas_le p r
    simp only [pas]
    split <;> simp <;> omega
theorem pasA_ge (p : Int → Bool) (zs : List Int) (k : Nat) : k ≤ pasA p zs k := Nat.le_add_right _ _
theorem pasA_le {p : Int → Bool} {zs : List Int} {k : Nat} (h : k ≤ zs.length) : pasA p zs k ≤ zs.length := by
  have := pas_le p (zs.drop k)
  rw [List.length_drop] at this
  unfold pasA
  omega
theorem pasA_pos {p : Int → Bool} {zs : List Int} {k : Nat} (h : k < zs.length) (hp : p (zs.getD k 0) = true) : k < pasA p zs k := by
  rw [pasA_step h hp]
  have := pasA_ge p zs (k + 1)
  omega
/-- a way to reason on: from the end backwards -/
theorem down {zs : List Int} {C : Nat → Prop} (h0 : ∀ k, zs.length ≤ k → C k) (h1 : ∀ k, k < zs.length → C (k + 1) → C k) : ∀ k, C k := by
  have : ∀ d k, zs.length ≤ k + d → C k := by
    intro d
    induction d with
    | zero => intro k hk; exact h0 k (by omega)
    | succ d ih =>
      intro k hk
      by_cases h : k < zs.length
      · exact h1 k h (ih (k + 1) (by omega))
      · exact h0 k (by omega)
  intro k
  exact this zs.length k (by omega)

/-! ### blanks and comments -/
def sk : Bool → List Int → Nat
  | _, [] => 0
  | c, z :: r => if !c && !isBl z && !decide (z = 35) then 0 else sk (if z = 10 then false else c || decide (z = 35)) r + 1
def skA (c : Bool) (zs : List Int) (k : Nat) : Nat := k + sk c (zs.drop k)
theorem skA_end {c : Bool} {zs : List Int} {k : Nat} (h : zs.length ≤ k) : skA c zs k = k := by
  unfold skA
  rw [List.drop_eq_nil_of_le h]
  cases c <;> rfl
theorem skA_stop {zs : List Int} {k : Nat} (h : k < zs.length) (h1 : isBl (zs.getD k 0) = false) (h2 : zs.getD k 0 ≠ 35) : skA false zs k = k := by
  unfold skA
  rw [drop_cons h]
  simp only [sk, h1, h2]
  rfl
theorem skA_step {c : Bool} {zs : List Int} {k : Nat} (h : k < zs.length) (hc : c = true ∨ isBl (zs.getD k 0) = true ∨ zs.getD k 0 = 35) : skA c zs k = skA (if zs.getD k 0 = 10 then false else c || decide (zs.getD k 0 = 35)) zs (k + 1) := by
  have hn : (!c && !isBl (zs.getD k 0) && !decide (zs.getD k 0 = 35)) = false := by
    rcases hc with h | h | h <;> simp only [h, Bool.not_true, Bool.false_and, Bool.and_false, decide_true]
  unfold skA
  rw [drop_cons h]
  simp only [sk, hn]
  simp
  omega
theorem skA_ge (c : Bool) (zs : List Int) (k : Nat) : k ≤ skA c zs k := Nat.le_add_right _ _
theorem sk_le : ∀ (c : Bool) (l : List Int), sk c l ≤ l.length
  | _, [] => by simp [sk]
  | c, z :: r => by
    have := sk_le (if z = 10 then false else c || decide (z = 35)) r
    simp only [sk]
    split
    · simp
    · rw [List.length_cons]; omega
theorem skA_le {c : Bool} {zs : List Int} {k : Nat} (h : k ≤ zs.length) : skA c zs k ≤ zs.length := by
  have := sk_le c (zs.drop k)
  rw [List.length_drop] at this
  unfold skA
  omega
/-- within a comment: up to the line's end, then on -/
theorem skA_line (zs : List Int) (k : Nat) : skA true zs k = skA false zs (pasA isLn zs k) := by
  refine down (zs := zs) (C := fun k => skA true zs k = skA false zs (pasA isLn zs k)) ?_ ?_ k
  · intro k hk
    rw [pasA_end hk, skA_end hk, skA_end hk]
  · intro k hk ih
    by_cases h : zs.getD k 0 = 10
    · have hl : isLn (zs.getD k 0) = false := by unfold isLn; rw [h]; rfl
      have hb : isBl (zs.getD k 0) = true := by unfold isBl; rw [h]; rfl
      rw [pasA_stop hk hl, skA_step hk (.inl rfl), skA_step hk (.inr (.inl hb)), if_pos h, if_pos h]
    · have hl : isLn (zs.getD k 0) = true := by unfold isLn; rw [decide_eq_false h]; rfl
      rw [pasA_step hk hl, skA_step hk (.inl rfl), if_neg h, Bool.true_or]
      exact ih
theorem skA_sharp {zs : List Int} {k : Nat} (h : k < zs.length) (hz : zs.getD k 0 = 35) : skA false zs k = skA false zs (pasA isLn zs k) := by
  have hl : isLn (zs.getD k 0) = true := by unfold isLn; rw [hz]; rfl
  rw [skA_step h (.inr (.inr hz)), if_neg (by omega), pasA_step h hl, ← skA_line, decide_eq_true hz]
  rfl
theorem skA_blank {zs : List Int} {k : Nat} (h : k < zs.length) (hz : isBl (zs.getD k 0) = true) : skA false zs k = skA false zs (k + 1) := by
  have : zs.getD k 0 ≠ 35 := by intro e; rw [e] at hz; cases hz
  rw [skA_step h (.inr (.inl hz)), decide_eq_false this]
  congr 1
  split <;> rfl
/-- where it stands still there is nothing, or no blank and no comment -/
theorem skA_at (zs : List Int) (k : Nat) (h : skA false zs k < zs.length) : isBl (zs.getD (skA false zs k) 0) = false ∧ zs.getD (skA false zs k) 0 ≠ 35 := by
  have : ∀ k, ∀ c, skA c zs k < zs.length → isBl (zs.getD (skA c zs k) 0) = false ∧ zs.getD (skA c zs k) 0 ≠ 35 := by
    refine down (zs := zs) ?_ ?_
    · intro k hk c h
      rw [skA_end hk] at h
      omega
    · intro k hk ih c h
      by_cases hc : c = true ∨ isBl (zs.getD k 0) = true ∨ zs.getD k 0 = 35
      · rw [skA_step hk hc] at h ⊢
        exact ih _ h
      · have h1 : c = false := by cases c <;> simp_all
        have h2 : isBl (zs.getD k 0) = false := by
          cases q : isBl (zs.getD k 0)
          · rfl
          · exact absurd (.inr (.inl q)) hc
        have h3 : zs.getD k 0 ≠ 35 := fun q => hc (.inr (.inr q))
        subst h1
        rw [skA_stop hk h2 h3]
        exact ⟨h2, h3⟩
  exact this k false h

/-! ### what stands between quotes: closed (0), what may not stand there (1), the end (2); state 0: outside of ${ and }, 1: within, 2: at the brace of ${ -/
def up (x : Nat × Nat) : Nat × Nat := (x.1 + 1, x.2)
def inn : Nat → List Int → Nat × Nat
  | _, [] => (0, 2)
  | o, z :: r => if o = 2 then up (inn 1 r) else if o = 1 ∧ z = 125 then up (inn 0 r) else if isPn z then up (inn o r) else if o = 0 ∧ z = 34 then (0, 0) else if o = 0 ∧ z = 36 ∧ r.head? = some 123 then up (inn 2 r) else (0, 1)
def innA (o : Nat) (zs : List Int) (k : Nat) : Nat × Nat := (k + (inn o (zs.drop k)).1, (inn o (zs.drop k)).2)
theorem innA_end {o : Nat} {zs : List Int} {k : Nat} (h : zs.length ≤ k) : innA o zs k = (k, 2) := by
  unfold innA
  rw [List.drop_eq_nil_of_le h]
  simp [inn]
theorem innA_eq {o : Nat} {zs : List Int} {k : Nat} (h : k < zs.length) : innA o zs k = if o = 2 then innA 1 zs (k + 1) else if o = 1 ∧ zs.getD k 0 = 125 then innA 0 zs (k + 1) else if isPn (zs.getD k 0) then innA o zs (k + 1) else if o = 0 ∧ zs.getD k 0 = 34 then (k, 0) else if o = 0 ∧ zs.getD k 0 = 36 ∧ zs[k + 1]? = some 123 then innA 2 zs (k + 1) else (k, 1) := by
  unfold innA
  rw [drop_cons h]
  have hh : (zs.drop (k + 1)).head? = zs[k + 1]? := by rw [List.head?_drop]
  generalize zs.getD k 0 = z at *
  simp only [inn, hh]
  split
  · simp [up]; omega
  split
  · simp [up]; omega
  split
  · simp [up]; omega
  split
  · simp
  split
  · simp [up]; omega
  · simp
theorem inn_le : ∀ (o : Nat) (l : List Int), (inn o l).1 ≤ l.length
  | _, [] => by simp [inn]
  | o, z :: r => by
    have h0 := inn_le 0 r
    have h1 := inn_le 1 r
    have h2 := inn_le 2 r
    have ho := inn_le o r
    simp only [inn]
    split
    · simp [up]; omega
    split
    · simp [up]; omega
    split
    · simp [up]; omega
    split
    · simp
    split
    · simp [up]; omega
    · simp
theorem innA_ge (o : Nat) (zs : List Int) (k : Nat) : k ≤ (innA o zs k).1 := Nat.le_add_right _ _
theorem innA_le {o : Nat} {zs : List Int} {k : Nat} (h : k ≤ zs.length) : (innA o zs k).1 ≤ zs.length := by
  have := inn_le o (zs.drop k)
  rw [List.length_drop] at this
  unfold innA
  simp
  omega
/-- closed or bad: there stands a byte -/
theorem innA_lt : ∀ (zs : List Int) (k : Nat) (o : Nat), k ≤ zs.length → (innA o zs k).2 ≠ 2 → (innA o zs k).1 < zs.length := by
  intro zs
  refine down (zs := zs) ?_ ?_
  · intro k hk o _ h
    rw [innA_end hk] at h
    exact absurd rfl h
  · intro k hk ih o _ h
    rw [innA_eq hk] at h ⊢
    split
    · rename_i q; rw [if_pos q] at h; exact ih _ hk h
    rename_i q0
    rw [if_neg q0] at h
    split
    · rename_i q; rw [if_pos q] at h; exact ih _ hk h
    rename_i q1
    rw [if_neg q1] at h
    split
    · rename_i q; rw [if_pos q] at h; exact ih _ hk h
    rename_i q2
    rw [if_neg q2] at h
    split
    · exact hk
    rename_i q3
    rw [if_neg q3] at h
    split
    · rename_i q; rw [if_pos q] at h; exact ih _ hk h
    · exact hk
theorem innA_end2 : ∀ (zs : List Int) (k : Nat) (o : Nat), k ≤ zs.length → (innA o zs k).2 = 2 → (innA o zs k).1 = zs.length := by
  intro zs
  refine down (zs := zs) ?_ ?_
  · intro k hk o hl h
    rw [innA_end hk]
    show k = _
    omega
  · intro k hk ih o _ h
    rw [innA_eq hk] at h ⊢
    split
    · rename_i q; rw [if_pos q] at h; exact ih _ hk h
    rename_i q0
    rw [if_neg q0] at h
    split
    · rename_i q; rw [if_pos q] at h; exact ih _ hk h
    rename_i q1
    rw [if_neg q1] at h
    split
    · rename_i q; rw [if_pos q] at h; exact ih _ hk h
    rename_i q2
    rw [if_neg q2] at h
    split
    · rename_i q; rw [if_pos q] at h; cases h
    rename_i q3
    rw [if_neg q3] at h
    split
    · rename_i q; rw [if_pos q] at h; exact ih _ hk h
    · rename_i q; rw [if_neg q] at h; cases h

/-! ### numbers -/
def dgS (v z : Int) : Int := min (10 * v + (z - 48)) 1099511627777
def dgV (v : Int) (l : List Int) : Int := l.foldl dgS v
def subL (zs : List Int) (a b : Nat) : List Int := (zs.take b).drop a
def dgE (zs : List Int) (k : Nat) : Nat := pasA isDig zs k
def nbV (zs : List Int) (k : Nat) : Int := dgV 0 (subL zs k (dgE zs k))
def unU (zs : List Int) (e : Nat) : Int := if zs[e]? = some 75 then 1024 else if zs[e]? = some 77 then 1048576 else 1
def unE (zs : List Int) (e : Nat) : Nat := if zs[e]? = some 75 ∨ zs[e]? = some 77 then e + 1 else e
def nbT (zs : List Int) (k : Nat) : Int := nbV zs k * unU zs (dgE zs k)
def nbE (zs : List Int) (k : Nat) : Nat := unE zs (dgE zs k)
/-- a letter or a digit stands there -/
def wdAt (zs : List Int) (e : Nat) : Bool := match zs[e]? with | some z => isWd z | none => false

/-! ### a token -/
structure Tk where
  k : Int
  tx : List Int
  n : Int
  a : Int
def tk0 (a : Int) : Tk := ⟨0, [], 0, a⟩
/-- the token that begins there, the place behind it (or the error's), the error -/
def tokA (zs : List Int) (k : Nat) : Tk × Nat × Int :=
  if isLet (zs.getD k 0) then (⟨1, subL zs k (pasA isWd zs k), 0, k⟩, pasA isWd zs k, 0)
  else if isDig (zs.getD k 0) then
    if 1099511627776 < nbT zs k ∨ wdAt zs (nbE zs k) = true then (tk0 k, k, 182) else (⟨3, [], nbT zs k, k⟩, nbE zs k, 0)
  else if zs.getD k 0 = 34 then
    if (innA 0 zs (k + 1)).2 = 0 then (⟨2, subL zs (k + 1) (innA 0 zs (k + 1)).1, 0, k⟩, (innA 0 zs (k + 1)).1 + 1, 0)
    else if (innA 0 zs (k + 1)).2 = 1 then (tk0 (innA 0 zs (k + 1)).1, (innA 0 zs (k + 1)).1, 183) else (tk0 k, k, 183)
  else if isMk (zs.getD k 0) then (⟨4, subL zs k (k + 1), 0, k⟩, k + 1, 0)
  else (tk0 k, k, 181)
/-- behind so many others -/
def nxtA (zs : List Int) (k c : Nat) : Tk × Nat × Int := if c = 16384 then (tk0 k, k, 184) else tokA zs k

/-! ### all tokens -/
def fin (pre : List Tk) (r : List Tk × Nat × Int) : List Tk × Nat × Int := if r.2.2 = 0 then (pre ++ r.1, 0, 0) else ([], r.2)
def lexF : Nat → List Int → Nat → Nat → List Tk × Nat × Int
  | 0, _, _, _ => ([], 0, 0)
  | f + 1, zs, k, c => if zs.length ≤ skA false zs k then ([], 0, 0) else
      if (nxtA zs (skA false zs k) c).2.2 = 0 then fin [(nxtA zs (skA false zs k) c).1] (lexF f zs (nxtA zs (skA false zs k) c).2.1 (c + 1)) else ([], (nxtA zs (skA false zs k) c).2)
def lexA (zs : List Int) (k c : Nat) : List Tk × Nat × Int := lexF (zs.length + 1 - k) zs k c
def lexP (zs : List Int) : List Tk × Nat × Int := if 65536 < zs.length then ([], 0, 180) else lexA zs 0 0

theorem fin_nil (r : List Tk × Nat × Int) (h : r.2.2 = 0 → r.2.1 = 0) (h2 : r.2.2 ≠ 0 → r.1 = []) : fin [] r = r := by
  unfold fin
  obtain ⟨a, b, c⟩ := r
  by_cases q : c = 0
  · simp at h; simp [q, h q]
  · simp at h2; simp [q, h2 q]
theorem fin_fin (p : List Tk) (t : Tk) (r : List Tk × Nat × Int) : fin p (fin [t] r) = fin (p ++ [t]) r := by
  unfold fin
  by_cases q : r.2.2 = 0
  · simp [q]
  · simp [q]
theorem dgE_pos {zs : List Int} {k : Nat} (h : k < zs.length) (hd : isDig (zs.getD k 0) = true) : k < dgE zs k := pasA_pos h hd
theorem unE_ge (zs : List Int) (e : Nat) : e ≤ unE zs e := by unfold unE; split <;> omega
theorem unE_le {zs : List Int} {e : Nat} (h : e ≤ zs.length) : unE zs e ≤ zs.length := by
  unfold unE
  split
  · rename_i q
    rcases q with q | q
    · have := (List.getElem?_eq_some_iff.1 q).1; omega
    · have := (List.getElem?_eq_some_iff.1 q).1; omega
  · exact h
/-- a token that is taken goes on, and stays within -/
theorem tokA_ok {zs : List Int} {k : Nat} (h : k < zs.length) (h0 : (tokA zs k).2.2 = 0) : k < (tokA zs k).2.1 ∧ (tokA zs k).2.1 ≤ zs.length := by
  unfold tokA at h0 ⊢
  split
  · rename_i q
    exact ⟨pasA_pos h (by unfold isWd; rw [q]; rfl), pasA_le (Nat.le_of_lt h)⟩
  rename_i q0
  rw [if_neg q0] at h0
  split
  · rename_i q1
    rw [if_pos q1] at h0
    split
    · rename_i q2; rw [if_pos q2] at h0; cases h0
    · have h1 := dgE_pos h q1
      have h2 := unE_ge zs (dgE zs k)
      have h3 : dgE zs k ≤ zs.length := pasA_le (Nat.le_of_lt h)
      exact ⟨by show k < unE zs (dgE zs k); omega, unE_le h3⟩
  rename_i q1
  rw [if_neg q1] at h0
  split
  · rename_i q2
    rw [if_pos q2] at h0
    split
    · rename_i q3
      have h1 := innA_ge 0 zs (k + 1)
      have h2 := innA_lt zs (k + 1) 0 h (by omega)
      exact ⟨by show k < _ + 1; omega, by show _ + 1 ≤ _; omega⟩
    rename_i q3
    rw [if_neg q3] at h0
    split
    · rename_i q4; rw [if_pos q4] at h0; cases h0
    · rename_i q4; rw [if_neg q4] at h0; cases h0
  rename_i q2
  rw [if_neg q2] at h0
  split
  · exact ⟨Nat.lt_succ_self _, h⟩
  · rename_i q3; rw [if_neg q3] at h0; cases h0
theorem nxtA_ok {zs : List Int} {k c : Nat} (h : k < zs.length) (h0 : (nxtA zs k c).2.2 = 0) : k < (nxtA zs k c).2.1 ∧ (nxtA zs k c).2.1 ≤ zs.length := by
  unfold nxtA at h0 ⊢
  split
  · rename_i q; rw [if_pos q] at h0; cases h0
  · rename_i q; rw [if_neg q] at h0; exact tokA_ok h h0
theorem lexF_enough : ∀ (f g : Nat) (zs : List Int) (k c : Nat), zs.length < f + k → zs.length < g + k → k ≤ zs.length → lexF f zs k c = lexF g zs k c
  | 0, _, zs, k, c, h, _, hk => by omega
  | _ + 1, 0, zs, k, c, _, h, hk => by omega
  | f + 1, g + 1, zs, k, c, h1, h2, hk => by
    simp only [lexF]
    split
    · rfl
    rename_i q
    split
    · rename_i q2
      have h3 := nxtA_ok (by omega) q2
      have h4 := skA_ge false zs k
      rw [lexF_enough f g zs _ _ (by omega) (by omega) h3.2]
    · rfl
theorem lexA_end {zs : List Int} {k : Nat} (c : Nat) (h : zs.length ≤ skA false zs k) : lexA zs k c = ([], 0, 0) := by
  unfold lexA
  cases q : zs.length + 1 - k with
  | zero => rfl
  | succ f => simp only [lexF]; rw [if_pos h]
theorem lexA_err {zs : List Int} {k c : Nat} (hk : k ≤ zs.length) (h : skA false zs k < zs.length) (h0 : (nxtA zs (skA false zs k) c).2.2 ≠ 0) : lexA zs k c = ([], (nxtA zs (skA false zs k) c).2) := by
  unfold lexA
  obtain ⟨f, hf⟩ : ∃ f, zs.length + 1 - k = f + 1 := ⟨zs.length - k, by omega⟩
  rw [hf]
  simp only [lexF]
  rw [if_neg (by omega), if_neg h0]
theorem lexA_ok {zs : List Int} {k c : Nat} (hk : k ≤ zs.length) (h : skA false zs k < zs.length) (h0 : (nxtA zs (skA false zs k) c).2.2 = 0) : lexA zs k c = fin [(nxtA zs (skA false zs k) c).1] (lexA zs (nxtA zs (skA false zs k) c).2.1 (c + 1)) := by
  have h3 := nxtA_ok h h0
  have h4 := skA_ge false zs k
  unfold lexA
  obtain ⟨f, hf⟩ : ∃ f, zs.length + 1 - k = f + 1 := ⟨zs.length - k, by omega⟩
  rw [hf]
  conv => lhs; simp only [lexF]
  rw [if_neg (by omega), if_pos h0, lexF_enough f (zs.length + 1 - (nxtA zs (skA false zs k) c).2.1) zs _ _ (by omega) (by omega) h3.2]
/-- what is skipped ahead makes no difference -/
theorem lexA_skip {zs : List Int} {k c : Nat} (hk : k ≤ zs.length) (j : Nat) (hj : j ≤ zs.length) (e : skA false zs k = skA false zs j) : lexA zs k c = lexA zs j c := by
  by_cases h : zs.length ≤ skA false zs k
  · rw [lexA_end c h, lexA_end c (by omega)]
  · by_cases h0 : (nxtA zs (skA false zs k) c).2.2 = 0
    · rw [lexA_ok hk (by omega) h0, lexA_ok hj (by omega) (by rw [← e]; exact h0), e]
    · rw [lexA_err hk (by omega) h0, lexA_err hj (by omega) (by rw [← e]; exact h0), e]

end Go.Proofs.YtbllaacbeagljaaGreatDoor
