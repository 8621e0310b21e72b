/-
  PLAIN: a stream's bytes taken part by part, as the program does it and as the document's answer does; both come to the same.
-/
import Derived.Test.YtahaehjmnafhbaaPlain
namespace Go.Proofs.Ytahaehjmnafhbaa

abbrev St := List Int × Bool
/-- so many bytes off the front; where there are fewer, nothing is left -/
def pt (s : St) (k : Int) : List Int × St := if (s.1.length : Int) < k then ([], ([], true)) else (s.1.take k.toNat, (s.1.drop k.toNat, s.2))
/-- the same, as the document's tape does it -/
def tp (s : St) (k : Int) : List Int × St := if s.2 || decide ((s.1.length : Int) < k) then ([], (s.1, true)) else (s.1.take k.toNat, (s.1.drop k.toNat, s.2))

structure Hd where
  name : List Int
  size : Int
  since : List Int
  sum : Int
  count : Int

theorem Hd.ext' {a a2 : List Int} {b b2 : Int} {c c2 : List Int} {d d2 e e2 : Int} (h1 : a = a2) (h2 : b = b2) (h3 : c = c2) (h4 : d = d2) (h5 : e = e2) : (⟨a, b, c, d, e⟩ : Hd) = ⟨a2, b2, c2, d2, e2⟩ := by subst h1; subst h2; subst h3; subst h4; subst h5; rfl
def nbG (f : St → Int → List Int × St) (s : St) (k : Int) : Int × St := (Pl.num (f s k).1, (f s k).2)
def txG (f : St → Int → List Int × St) (s : St) : List Int × St := f (nbG f s 1).2 (nbG f s 1).1
def h1 (f : St → Int → List Int × St) (s : St) : St := (txG f s).2
def h2 (f : St → Int → List Int × St) (s : St) : St := (nbG f (h1 f s) 4).2
def h3 (f : St → Int → List Int × St) (s : St) : St := (txG f (h2 f s)).2
def h4 (f : St → Int → List Int × St) (s : St) : St := (nbG f (h3 f s) 4).2
def hdS (f : St → Int → List Int × St) (s : St) : St := (nbG f (h4 f s) 4).2
def hdG (f : St → Int → List Int × St) (s : St) : Hd :=
  { name := (txG f s).1, size := (nbG f (h1 f s) 4).1, since := (txG f (h2 f s)).1, sum := (nbG f (h3 f s) 4).1, count := (nbG f (h4 f s) 4).1 }

/-- both alike and well, or both bad -/
def Sim (s t : St) : Prop := (s = t ∧ s.2 = false) ∨ (s.2 = true ∧ t.2 = true)
theorem pt_bad {s : St} (h : s.2 = true) (k : Int) : (pt s k).2.2 = true := by unfold pt; split <;> simp [h]
theorem tp_bad {s : St} (h : s.2 = true) (k : Int) : (tp s k).2.2 = true := by unfold tp; simp [h]
theorem tp_bad1 {s : St} (h : s.2 = true) (k : Int) : (tp s k).1 = [] := by unfold tp; simp [h]
/-- one step: the same answer, or both bad -/
theorem sim_step {s t : St} (h : Sim s t) (k : Int) : ((pt s k).1 = (tp t k).1 ∧ (pt s k).2 = (tp t k).2 ∧ (pt s k).2.2 = false) ∨ ((pt s k).2.2 = true ∧ (tp t k).2.2 = true) := by
  rcases h with ⟨rfl, h⟩ | ⟨h1, h2⟩
  · by_cases q : (s.1.length : Int) < k
    · right; unfold pt tp; simp [q]
    · left; unfold pt tp; simp [q, h]
  · exact .inr ⟨pt_bad h1 k, tp_bad h2 k⟩
theorem sim_next {s t : St} (h : Sim s t) (k k' : Int) (hk : s.2 = false → k = k') : Sim (pt s k).2 (tp t k').2 := by
  rcases h with ⟨rfl, h⟩ | ⟨h1, h2⟩
  · rcases sim_step (.inl ⟨rfl, h⟩) k with ⟨_, q, r⟩ | q
    · rw [← hk h]; exact .inl ⟨q, r⟩
    · rw [← hk h]; exact .inr q
  · exact .inr ⟨pt_bad h1 k, tp_bad h2 k'⟩
theorem sim_val {s t : St} (h : Sim s t) (k k' : Int) (hk : s.2 = false → k = k') (hb : (pt s k).2.2 = false) : (pt s k).1 = (tp t k').1 := by
  rcases h with ⟨rfl, h⟩ | ⟨h1, _⟩
  · rcases sim_step (.inl ⟨rfl, h⟩) k with ⟨q, _⟩ | q
    · rw [← hk h]; exact q
    · rw [q.1] at hb; cases hb
  · rw [pt_bad h1 k] at hb; cases hb
theorem pt_good {s : St} {k : Int} (h : (pt s k).2.2 = false) : s.2 = false := by
  cases q : s.2
  · rfl
  · rw [pt_bad q k] at h; cases h

theorem sim_tx {s t : St} (h : Sim s t) : Sim (txG pt s).2 (txG tp t).2 ∧ ((txG pt s).2.2 = false → (txG pt s).1 = (txG tp t).1) := by
  have h1 := sim_next h 1 1 (fun _ => rfl)
  have v1 := sim_val h 1 1 (fun _ => rfl)
  refine ⟨sim_next h1 _ _ (fun q => by show Pl.num _ = Pl.num _; rw [v1 q]), fun q => sim_val h1 _ _ (fun q => by show Pl.num _ = Pl.num _; rw [v1 q]) q⟩
theorem sim_nb {s t : St} (h : Sim s t) (k : Int) : Sim (nbG pt s k).2 (nbG tp t k).2 ∧ ((nbG pt s k).2.2 = false → (nbG pt s k).1 = (nbG tp t k).1) :=
  ⟨sim_next h k k (fun _ => rfl), fun q => by show Pl.num _ = Pl.num _; rw [sim_val h k k (fun _ => rfl) q]⟩
theorem nb_good {s : St} {k : Int} (h : (nbG pt s k).2.2 = false) : s.2 = false := by
  unfold nbG at h
  exact pt_good h
theorem txG_good {s : St} (h : (txG pt s).2.2 = false) : s.2 = false := by
  unfold txG at h
  exact nb_good (pt_good h)

theorem sim_hd {s t : St} (h : Sim s t) : Sim (hdS pt s) (hdS tp t) ∧ ((hdS pt s).2 = false → hdG pt s = hdG tp t) := by
  have a : Sim (h1 pt s) (h1 tp t) ∧ ((h1 pt s).2 = false → (txG pt s).1 = (txG tp t).1) := by unfold h1; exact sim_tx h
  have b : Sim (h2 pt s) (h2 tp t) ∧ ((h2 pt s).2 = false → (nbG pt (h1 pt s) 4).1 = (nbG tp (h1 tp t) 4).1) := by unfold h2; exact sim_nb a.1 4
  have c : Sim (h3 pt s) (h3 tp t) ∧ ((h3 pt s).2 = false → (txG pt (h2 pt s)).1 = (txG tp (h2 tp t)).1) := by unfold h3; exact sim_tx b.1
  have d : Sim (h4 pt s) (h4 tp t) ∧ ((h4 pt s).2 = false → (nbG pt (h3 pt s) 4).1 = (nbG tp (h3 tp t) 4).1) := by unfold h4; exact sim_nb c.1 4
  have e : Sim (hdS pt s) (hdS tp t) ∧ ((hdS pt s).2 = false → (nbG pt (h4 pt s) 4).1 = (nbG tp (h4 tp t) 4).1) := by unfold hdS; exact sim_nb d.1 4
  refine ⟨e.1, fun q => ?_⟩
  have qd : (h4 pt s).2 = false := by unfold hdS at q; exact nb_good q
  have qc : (h3 pt s).2 = false := by unfold h4 at qd; exact nb_good qd
  have qb : (h2 pt s).2 = false := by unfold h3 at qc; exact txG_good qc
  have qa : (h1 pt s).2 = false := by unfold h2 at qb; exact nb_good qb
  exact Hd.ext' (a.2 qa) (b.2 qb) (c.2 qc) (d.2 qd) (e.2 q)

/-! ### runs -/
abbrev Rn := Int × Int × Int
def ahead (k t kind fr : Int) : Bool := decide (t < fr) || (decide (fr = t) && !decide (kind = k))
def rA (f : St → Int → List Int × St) (s : St) : Int × St := nbG f s 1
def rB (f : St → Int → List Int × St) (s : St) : Int × St := nbG f (rA f s).2 4
def rC (f : St → Int → List Int × St) (s : St) : Int × St := nbG f (rB f s).2 4
def no1 (sz k t : Int) (s : St) : Bool := (rC pt s).2.2 || !ahead k t (rA pt s).1 (rB pt s).1 || decide ((rC pt s).1 ≤ (rB pt s).1) || decide (sz < (rC pt s).1)
def rD (s : St) : List Int × St := pt (rC pt s).2 (512 * ((rC pt s).1 - (rB pt s).1))
def oneP (sz : Int) (inc : Bool) (k t : Int) (s : St) : Option (Rn × St) :=
  if no1 sz k t s then none
  else if (rA pt s).1 = 1 then (if (rD s).2.2 then none else some ((1, (rB pt s).1, (rC pt s).1), (rD s).2))
  else if (rA pt s).1 = 2 then (if inc then some ((2, (rB pt s).1, (rC pt s).1), (rC pt s).2) else none)
  else none
def runsP (sz : Int) (inc : Bool) : Nat → Int → Int → St → Option (List Rn × St)
  | 0, _, _, s => some ([], s)
  | n + 1, k, t, s => (oneP sz inc k t s).bind fun a => (runsP sz inc n a.1.1 a.1.2.2 a.2).bind fun b => some (a.1 :: b.1, b.2)
def oneR (s : St) : Rn × St := (((rA tp s).1, (rB tp s).1, (rC tp s).1), if (rA tp s).1 = 1 ∧ (rB tp s).1 < (rC tp s).1 then (tp (rC tp s).2 (512 * ((rC tp s).1 - (rB tp s).1))).2 else (rC tp s).2)
def runsR : Nat → St → List Rn × St
  | 0, s => ([], s)
  | n + 1, s => if s.2 then ([], s) else ((oneR s).1 :: (runsR n (oneR s).2).1, (runsR n (oneR s).2).2)
def okR (sz : Int) (inc : Bool) (r : Rn) : Bool := (decide (r.1 = 1) || (decide (r.1 = 2) && inc)) && decide (r.2.1 < r.2.2) && decide (r.2.2 ≤ sz)
def mayR (sz : Int) (inc : Bool) : Int → Int → List Rn → Bool
  | _, _, [] => true
  | k, t, r :: l => okR sz inc r && ahead k t r.1 r.2.1 && mayR sz inc r.1 r.2.2 l

theorem runsR_bad (n : Nat) {s : St} (h : s.2 = true) : (runsR n s).2.2 = true := by
  cases n with
  | zero => exact h
  | succ n => simp [runsR, h]
theorem oneR_bad {s : St} (h : (rC tp s).2.2 = true) : (oneR s).2.2 = true := by
  unfold oneR; dsimp only; split
  · exact tp_bad h _
  · exact h

theorem oneP_some {sz : Int} {inc : Bool} {k t : Int} {s s' : St} {r : Rn} (hs : s.2 = false) (h : oneP sz inc k t s = some (r, s')) : s'.2 = false ∧ oneR s = (r, s') ∧ okR sz inc r = true ∧ ahead k t r.1 r.2.1 = true := by
  have a : Sim (rA pt s).2 (rA tp s).2 ∧ ((rA pt s).2.2 = false → (rA pt s).1 = (rA tp s).1) := sim_nb (.inl ⟨rfl, hs⟩ : Sim s s) 1
  have b : Sim (rB pt s).2 (rB tp s).2 ∧ ((rB pt s).2.2 = false → (rB pt s).1 = (rB tp s).1) := sim_nb a.1 4
  have c : Sim (rC pt s).2 (rC tp s).2 ∧ ((rC pt s).2.2 = false → (rC pt s).1 = (rC tp s).1) := sim_nb b.1 4
  unfold oneP at h
  split at h
  · cases h
  rename_i h1
  unfold no1 at h1
  simp only [Bool.or_eq_true, decide_eq_true_eq, Bool.not_eq_true', not_or, Bool.not_eq_true, Bool.not_eq_false, Int.not_le, Int.not_lt] at h1
  obtain ⟨⟨⟨h1, h2⟩, h3⟩, h4⟩ := h1
  have qb : (rB pt s).2.2 = false := by unfold rC at h1; exact nb_good h1
  have qa : (rA pt s).2.2 = false := by unfold rB at qb; exact nb_good qb
  have eC := c.2 h1
  have eB := b.2 qb
  have eA := a.2 qa
  have sC : (rC pt s).2 = (rC tp s).2 := by
    rcases c.1 with ⟨q, _⟩ | ⟨q, _⟩
    · exact q
    · rw [h1] at q; cases q
  split at h
  · rename_i k1
    split at h
    · cases h
    rename_i h5
    simp only [Bool.not_eq_true] at h5
    simp only [Option.some.injEq, Prod.mk.injEq] at h
    obtain ⟨rfl, rfl⟩ := h
    have hd := sim_step (.inl ⟨rfl, h1⟩ : Sim (rC pt s).2 (rC pt s).2) (512 * ((rC pt s).1 - (rB pt s).1))
    rcases hd with ⟨_, d2, _⟩ | ⟨d1, _⟩
    · refine ⟨h5, ?_, ?_, by rw [k1] at h2; exact h2⟩
      · unfold oneR
        rw [← eA, ← eB, ← eC, ← sC, k1, if_pos ⟨rfl, h3⟩, ← d2]
        rfl
      · simp [okR, h3, h4]
    · rw [show (rD s).2.2 = true from d1] at h5; cases h5
  · rename_i k1
    split at h
    · rename_i k2
      split at h
      · rename_i hi
        simp only [Option.some.injEq, Prod.mk.injEq] at h
        obtain ⟨rfl, rfl⟩ := h
        refine ⟨h1, ?_, by simp [okR, h3, h4, hi], by rw [k2] at h2; exact h2⟩
        unfold oneR
        rw [← eA, ← eB, ← eC, ← sC, k2, if_neg (by omega)]
      · cases h
    · cases h

theorem oneP_of {sz : Int} {inc : Bool} {k t : Int} {s : St} (hs : s.2 = false) (h1 : (oneR s).2.2 = false) (h2 : okR sz inc (oneR s).1 = true) (h3 : ahead k t (oneR s).1.1 (oneR s).1.2.1 = true) : oneP sz inc k t s = some (oneR s) := by
  have a : Sim (rA pt s).2 (rA tp s).2 ∧ ((rA pt s).2.2 = false → (rA pt s).1 = (rA tp s).1) := sim_nb (.inl ⟨rfl, hs⟩ : Sim s s) 1
  have b : Sim (rB pt s).2 (rB tp s).2 ∧ ((rB pt s).2.2 = false → (rB pt s).1 = (rB tp s).1) := sim_nb a.1 4
  have c : Sim (rC pt s).2 (rC tp s).2 ∧ ((rC pt s).2.2 = false → (rC pt s).1 = (rC tp s).1) := sim_nb b.1 4
  have gC : (rC tp s).2.2 = false := by
    cases q : (rC tp s).2.2
    · rfl
    · rw [oneR_bad q] at h1; cases h1
  have sC : (rC pt s).2 = (rC tp s).2 ∧ (rC pt s).2.2 = false := by
    rcases c.1 with q | ⟨_, q⟩
    · exact q
    · rw [gC] at q; cases q
  have qb : (rB pt s).2.2 = false := by have q := sC.2; unfold rC at q; exact nb_good q
  have qa : (rA pt s).2.2 = false := by unfold rB at qb; exact nb_good qb
  have eC := c.2 sC.2
  have eB := b.2 qb
  have eA := a.2 qa
  unfold oneR at h2 h3
  dsimp only at h2 h3
  rw [← eA, ← eB, ← eC] at h2
  rw [← eA, ← eB] at h3
  unfold okR at h2
  simp only [Bool.and_eq_true, Bool.or_eq_true, decide_eq_true_eq] at h2
  obtain ⟨⟨h2, h4⟩, h5⟩ := h2
  have hn : no1 sz k t s = false := by
    unfold no1
    rw [sC.2, h3]
    simp
    exact ⟨h4, h5⟩
  unfold oneP
  rw [if_neg (by rw [hn]; decide)]
  rcases h2 with k1 | ⟨k2, hi⟩
  · rw [if_pos k1]
    have hd := sim_step (.inl ⟨rfl, sC.2⟩ : Sim (rC pt s).2 (rC pt s).2) (512 * ((rC pt s).1 - (rB pt s).1))
    have e2 : (oneR s).2 = (tp (rC pt s).2 (512 * ((rC pt s).1 - (rB pt s).1))).2 := by
      unfold oneR
      rw [← eA, ← eB, ← eC, ← sC.1, if_pos ⟨k1, h4⟩]
    rcases hd with ⟨_, d2, d3⟩ | ⟨_, d1⟩
    · rw [if_neg (by rw [show (rD s).2.2 = false from d3]; decide)]
      unfold oneR
      rw [← eA, ← eB, ← eC, ← sC.1, if_pos ⟨k1, h4⟩, ← d2, k1]
      rfl
    · rw [← e2] at d1; rw [d1] at h1; cases h1
  · rw [if_neg (by omega), if_pos k2, if_pos hi]
    unfold oneR
    rw [← eA, ← eB, ← eC, ← sC.1, if_neg (by omega), k2]

theorem runsP_some {sz : Int} {inc : Bool} {n : Nat} : ∀ {k t : Int} {s s' : St} {l : List Rn}, s.2 = false → runsP sz inc n k t s = some (l, s') → s'.2 = false ∧ runsR n s = (l, s') ∧ mayR sz inc k t l = true := by
  induction n with
  | zero => intro k t s s' l hs h; simp only [runsP, Option.some.injEq, Prod.mk.injEq] at h; obtain ⟨rfl, rfl⟩ := h; exact ⟨hs, rfl, rfl⟩
  | succ n ih =>
    intro k t s s' l hs h
    simp only [runsP, Option.bind_eq_some_iff] at h
    obtain ⟨⟨r, s1⟩, h1, ⟨l2, s2⟩, h2, h3⟩ := h
    simp only [Option.some.injEq, Prod.mk.injEq] at h3
    obtain ⟨rfl, rfl⟩ := h3
    obtain ⟨a1, a2, a3, a4⟩ := oneP_some hs h1
    obtain ⟨b1, b2, b3⟩ := ih a1 h2
    refine ⟨b1, ?_, ?_⟩
    · simp only [runsR, hs, a2, b2]; rfl
    · simp only [mayR, a3, a4, b3]; rfl
theorem runsP_of {sz : Int} {inc : Bool} {n : Nat} : ∀ {k t : Int} {s : St}, s.2 = false → (runsR n s).2.2 = false → mayR sz inc k t (runsR n s).1 = true → runsP sz inc n k t s = some (runsR n s) := by
  induction n with
  | zero => intro k t s _ _ _; rfl
  | succ n ih =>
    intro k t s hs h1 h2
    simp only [runsR, hs, Bool.false_eq_true, if_false] at h1 h2 ⊢
    have g : (oneR s).2.2 = false := by
      cases q : (oneR s).2.2
      · rfl
      · rw [runsR_bad n q] at h1; cases h1
    simp only [mayR, Bool.and_eq_true] at h2
    obtain ⟨⟨h2, h3⟩, h4⟩ := h2
    simp only [runsP, oneP_of hs g h2 h3, Option.bind_some, ih g h1 h4]

/-! ### the whole -/
def isLow (z : Int) : Bool := (decide (97 ≤ z) && decide (z ≤ 122)) || decide (z = 126)
def isSign (z : Int) : Bool := isLow z || ((decide (48 ≤ z) && decide (z ≤ 57)) || decide (z = 46) || decide (z = 45) || decide (z = 95) || decide (z = 64))
/-- a name -/
def nmd (l : List Int) : Bool := decide (1 ≤ l.length) && decide (l.length ≤ 31) && isLow (l.getD 0 0) && l.all isSign
def hmy (h : Hd) : Bool := nmd h.name && decide (1 ≤ h.size) && decide (h.size ≤ 262144) && (if h.since = [] then decide (h.sum = 0) else nmd h.since)
def conP (b : List Int) : Option (Hd × List Rn) :=
  if (hdS pt (b, false)).2 || !hmy (hdG pt (b, false)) then none
  else (runsP (hdG pt (b, false)).size (!decide ((hdG pt (b, false)).since = [])) (hdG pt (b, false)).count.toNat 0 0 (hdS pt (b, false))).bind fun a => if a.2.1 = [] then some (hdG pt (b, false), a.1) else none
/-- is the i-th run one that may be behind the one ahead of it? -/
def chkR (sz : Int) (inc : Bool) (l : List Rn) (i : Nat) : Bool := okR sz inc (l.getD i (0, 0, 0)) && (decide (i = 0) || ahead (l.getD (i - 1) (0, 0, 0)).1 (l.getD (i - 1) (0, 0, 0)).2.2 (l.getD i (0, 0, 0)).1 (l.getD i (0, 0, 0)).2.1)
def mayB (h : Hd) (l : List Rn) : Bool := hmy h && (List.range l.length).all (chkR h.size (!decide (h.since = [])) l)
def conR (b : List Int) : Option (Hd × List Rn) :=
  if (runsR (hdG tp (b, false)).count.toNat (hdS tp (b, false))).2.2 || !decide ((runsR (hdG tp (b, false)).count.toNat (hdS tp (b, false))).2.1 = []) || !mayB (hdG tp (b, false)) (runsR (hdG tp (b, false)).count.toNat (hdS tp (b, false))).1 then none
  else some (hdG tp (b, false), (runsR (hdG tp (b, false)).count.toNat (hdS tp (b, false))).1)

theorem mayR_from {sz : Int} {inc : Bool} (l : List Rn) : ∀ (k t : Int), mayR sz inc k t l = true ↔ ((∀ i, i < l.length → okR sz inc (l.getD i (0, 0, 0)) = true) ∧ (0 < l.length → ahead k t (l.getD 0 (0, 0, 0)).1 (l.getD 0 (0, 0, 0)).2.1 = true) ∧ (∀ i, i + 1 < l.length → ahead (l.getD i (0, 0, 0)).1 (l.getD i (0, 0, 0)).2.2 (l.getD (i + 1) (0, 0, 0)).1 (l.getD (i + 1) (0, 0, 0)).2.1 = true)) := by
  induction l with
  | nil => intro k t; simp [mayR]
  | cons r l ih =>
    intro k t
    simp only [mayR, Bool.and_eq_true, ih]
    constructor
    · rintro ⟨⟨h1, h2⟩, h3, h4, h5⟩
      refine ⟨fun i hi => ?_, fun _ => by simpa using h2, fun i hi => ?_⟩
      · cases i with
        | zero => simpa using h1
        | succ i => simpa using h3 i (by simpa using hi)
      · cases i with
        | zero => simpa using h4 (by simpa using hi)
        | succ i => simpa using h5 i (by simpa using hi)
    · rintro ⟨h1, h2, h3⟩
      refine ⟨⟨by simpa using h1 0 (by simp), by simpa using h2 (by simp)⟩, fun i hi => by simpa using h1 (i + 1) (by simpa using hi), fun hl => by simpa using h3 0 (by simpa using hl), fun i hi => by simpa using h3 (i + 1) (by simpa using hi)⟩

theorem okR_kind {sz : Int} {inc : Bool} {r : Rn} (h : okR sz inc r = true) : r.1 = 1 ∨ r.1 = 2 := by
  unfold okR at h
  simp only [Bool.and_eq_true, Bool.or_eq_true, decide_eq_true_eq] at h
  rcases h.1.1 with h | h
  · exact .inl h
  · exact .inr h.1
theorem mayB_iff {sz : Int} {inc : Bool} {l : List Rn} (h0 : ∀ r ∈ l, (0 : Int) ≤ r.2.1) : (List.range l.length).all (chkR sz inc l) = mayR sz inc 0 0 l := by
  rw [Bool.eq_iff_iff, List.all_eq_true, mayR_from]
  constructor
  · intro h
    have hc : ∀ i, i < l.length → chkR sz inc l i = true := fun i hi => h i (by simpa using hi)
    have ho : ∀ i, i < l.length → okR sz inc (l.getD i (0, 0, 0)) = true := fun i hi => by have := hc i hi; unfold chkR at this; rw [Bool.and_eq_true] at this; exact this.1
    refine ⟨ho, fun hl => ?_, fun i hi => ?_⟩
    · have k := okR_kind (ho 0 hl)
      have z := h0 (l.getD 0 (0, 0, 0)) (by rw [List.getD_eq_getElem?_getD, List.getElem?_eq_getElem hl]; exact List.getElem_mem hl)
      unfold ahead
      simp only [Bool.or_eq_true, Bool.and_eq_true, decide_eq_true_eq, Bool.not_eq_true', decide_eq_false_iff_not]
      omega
    · have := hc (i + 1) hi
      unfold chkR at this
      rw [Bool.and_eq_true, Bool.or_eq_true] at this
      rcases this.2 with q | q
      · simp at q
      · simpa using q
  · rintro ⟨h1, h2, h3⟩ i hi
    have hi' : i < l.length := by simpa using hi
    unfold chkR
    rw [Bool.and_eq_true, Bool.or_eq_true]
    refine ⟨h1 i hi', ?_⟩
    cases i with
    | zero => left; rfl
    | succ i => right; simpa using h3 i hi'

theorem isB_tp {s : St} (h : Pl.isB s.1) (k : Int) : Pl.isB (tp s k).1 ∧ Pl.isB (tp s k).2.1 := by
  unfold tp; split
  · exact ⟨Pl.isB_nil, h⟩
  · exact ⟨Pl.isB_take h _, Pl.isB_drop h _⟩
theorem isB_pt {s : St} (h : Pl.isB s.1) (k : Int) : Pl.isB (pt s k).1 ∧ Pl.isB (pt s k).2.1 := by
  unfold pt; split
  · exact ⟨Pl.isB_nil, Pl.isB_nil⟩
  · exact ⟨Pl.isB_take h _, Pl.isB_drop h _⟩
theorem isB_oneR {s : St} (h : Pl.isB s.1) : 0 ≤ (oneR s).1.2.1 ∧ Pl.isB (oneR s).2.1 := by
  have a := isB_tp h 1
  have b := isB_tp a.2 4
  have c : Pl.isB (rC tp s).2.1 := (isB_tp b.2 4).2
  refine ⟨Pl.num_nonneg b.1, ?_⟩
  unfold oneR; dsimp only; split
  · exact (isB_tp c _).2
  · exact c
theorem runsR_from (n : Nat) : ∀ {s : St}, Pl.isB s.1 → ∀ r ∈ (runsR n s).1, (0 : Int) ≤ r.2.1 := by
  induction n with
  | zero => intro s _ r hr; cases hr
  | succ n ih =>
    intro s h r hr
    simp only [runsR] at hr
    split at hr
    · cases hr
    · rcases List.mem_cons.1 hr with rfl | hr
      · exact (isB_oneR h).1
      · exact ih (isB_oneR h).2 r hr
theorem isB_hdS {s : St} (h : Pl.isB s.1) : Pl.isB (hdS tp s).1 := (isB_tp (isB_tp (isB_tp (isB_tp (isB_tp (isB_tp (isB_tp h _).2 _).2 _).2 _).2 _).2 _).2 _).2

theorem conP_conR {b : List Int} (hb : Pl.isB b) : conP b = conR b := by
  have hh := sim_hd (.inl ⟨rfl, rfl⟩ : Sim (b, false) (b, false))
  have hB : Pl.isB (hdS tp (b, false)).1 := isB_hdS hb
  unfold conP conR
  cases q : (hdS pt (b, false)).2
  · have e := hh.2 q
    have e2 : hdS pt (b, false) = hdS tp (b, false) := by
      rcases hh.1 with ⟨r, _⟩ | ⟨r, _⟩
      · exact r
      · rw [q] at r; cases r
    rw [e, e2]
    rw [e2] at q
    generalize hdG tp (b, false) = h at *
    generalize hdS tp (b, false) = s at *
    have hm := mayB_iff (sz := h.size) (inc := !decide (h.since = [])) (runsR_from h.count.toNat hB)
    unfold mayB
    rw [hm]
    cases qh : hmy h
    · simp
    · simp only [Bool.not_true, Bool.or_false, Bool.false_eq_true, if_false, Bool.true_and]
      cases qr : runsP h.size (!decide (h.since = [])) h.count.toNat 0 0 s with
      | none =>
        simp only [Option.bind_none]
        rw [eq_comm, ite_eq_left_iff]
        intro k
        simp only [Bool.or_eq_true, Bool.not_eq_true', decide_eq_false_iff_not, not_or, Bool.not_eq_true, Bool.not_eq_false, Decidable.not_not] at k
        rw [runsP_of q k.1.1 k.2] at qr
        cases qr
      | some a =>
        obtain ⟨l, s'⟩ := a
        obtain ⟨a1, a2, a3⟩ := runsP_some q qr
        rw [a2]
        simp only [Option.bind_some, a1, a3]
        by_cases z : s'.1 = [] <;> simp [z]
  · have q2 : (hdS tp (b, false)).2 = true := by
      rcases hh.1 with ⟨r, s⟩ | ⟨_, r⟩
      · rw [q] at s; cases s
      · exact r
    simp [runsR_bad _ q2]

end Go.Proofs.Ytahaehjmnafhbaa
