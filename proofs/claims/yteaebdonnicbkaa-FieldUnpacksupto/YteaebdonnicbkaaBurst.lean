/-
  PLAIN: a sum tells up to four changed neighbours; what is unstamped is what would be stamped.
-/
import Derived.Test.YteaebdonnicbkaaFact
import Derived.Test.YteaebdonnicbkaaUErr
namespace Go.Proofs.Yteaebdonnicbkaa
open Go.RowKit

theorem step1_zero {x : Nat} (hx : x < 4294967296) (h : Pl.step1 x = 0) : x = 0 := by
  unfold Pl.step1 at h
  split at h
  · have h2 : x / 2 = Pl.poly := by
      have h3 : x / 2 ^^^ Pl.poly ^^^ Pl.poly = Pl.poly := by rw [h, Nat.zero_xor]
      rw [Nat.xor_assoc, Nat.xor_self, Nat.xor_zero] at h3
      exact h3
    unfold Pl.poly at h2
    omega
  · omega
theorem stepN_eq_zero (n : Nat) {x : Nat} (hx : x < 4294967296) (h : Pl.stepN n x = 0) : x = 0 := by
  induction n generalizing x with
  | zero => exact h
  | succ n ih => exact step1_zero hx (ih (Pl.step1_lt hx) h)
/-- the register behind bytes, from any start -/
def run (s : Nat) (l : List Nat) : Nat := Pl.sums s l
theorem run_nil (s : Nat) : run s [] = s := rfl
theorem run_cons (s b : Nat) (l : List Nat) : run s (b :: l) = run (Pl.stepN 8 (s ^^^ b)) l := rfl
theorem run_append (s : Nat) (a b : List Nat) : run s (a ++ b) = run (run s a) b := by simp [run, Pl.sums]
theorem xor4 (a b c d : Nat) : (a ^^^ b) ^^^ (c ^^^ d) = (a ^^^ c) ^^^ (b ^^^ d) := by
  rw [Nat.xor_assoc, Nat.xor_assoc, ← Nat.xor_assoc b, ← Nat.xor_assoc c, Nat.xor_comm b c]
/-- two runs side by side -/
theorem run_xor (s t : Nat) (a b : List Nat) (h : a.length = b.length) : run (s ^^^ t) (List.zipWith (· ^^^ ·) a b) = run s a ^^^ run t b := by
  induction a generalizing s t b with
  | nil => cases b with
    | nil => rfl
    | cons _ _ => cases h
  | cons x r ih => cases b with
    | nil => cases h
    | cons y q =>
      simp only [List.zipWith_cons_cons, run_cons]
      rw [xor4, Pl.stepN_xor]
      exact ih _ _ _ (by simpa using h)
theorem run_zeros (n : Nat) : ∀ s, s < 4294967296 → run s (List.replicate n 0) = 0 → s = 0 := by
  induction n with
  | zero => intro s _ h; exact h
  | succ n ih =>
    intro s hs h
    rw [List.replicate_succ, run_cons, Nat.xor_zero] at h
    exact stepN_eq_zero 8 hs (ih _ (Pl.stepN_lt 8 hs) h)
theorem run_zero_zeros (n : Nat) : run 0 (List.replicate n 0) = 0 := by
  induction n with
  | zero => rfl
  | succ n ih => rw [List.replicate_succ, run_cons, Nat.xor_zero, Pl.stepN_zero]; exact ih
/-- a byte that comes in behind eight steps comes in ahead of them, moved up -/
theorem step_in (x y : Nat) : Pl.stepN 8 x ^^^ y = Pl.stepN 8 (x ^^^ y * 256) := by
  rw [Pl.stepN_xor, show y * 256 = y * 2 ^ 8 from rfl, Pl.stepN_mul]
theorem xor_low {a b : Nat} (ha : a < 256) (h : a ^^^ b * 256 = 0) : a = 0 ∧ b = 0 := by
  have h2 : a = b * 256 := by
    have h3 : a ^^^ b * 256 ^^^ b * 256 = b * 256 := by rw [h, Nat.zero_xor]
    rw [Nat.xor_assoc, Nat.xor_self, Nat.xor_zero] at h3
    exact h3
  omega
/-- four bytes that are not all nought leave a register that is not -/
theorem run_four {a b c d : Nat} (ha : a < 256) (hb : b < 256) (hc : c < 256) (hd : d < 256) (h : run 0 [a, b, c, d] = 0) : a = 0 ∧ b = 0 ∧ c = 0 ∧ d = 0 := by
  have hlt : ∀ {x y : Nat} (n : Nat), x < 256 → y < 2 ^ n → 8 ≤ n + 8 → x ^^^ y * 256 < 2 ^ (n + 8) := by
    intro x y n hx hy _
    refine Nat.xor_lt_two_pow ?_ ?_
    · exact Nat.lt_of_lt_of_le hx (by rw [show (256 : Nat) = 2 ^ 8 from rfl]; exact Nat.pow_le_pow_right (by decide) (by omega))
    · rw [Nat.pow_add]; omega
  have e : run 0 [a, b, c, d] = Pl.stepN 8 (Pl.stepN 8 (Pl.stepN 8 (Pl.stepN 8 (a ^^^ (b ^^^ (c ^^^ d * 256) * 256) * 256)))) := by
    simp only [run_cons, run_nil, Nat.zero_xor]
    rw [step_in (Pl.stepN 8 (Pl.stepN 8 a ^^^ b) ^^^ c) d]
    rw [Nat.xor_assoc (Pl.stepN 8 (Pl.stepN 8 a ^^^ b)), step_in (Pl.stepN 8 a ^^^ b)]
    rw [Nat.xor_assoc (Pl.stepN 8 a), step_in a]
  rw [e] at h
  have h1 : c ^^^ d * 256 < 2 ^ 16 := hlt 8 hc hd (by decide)
  have h2 : b ^^^ (c ^^^ d * 256) * 256 < 2 ^ 24 := hlt 16 hb h1 (by decide)
  have h3 : a ^^^ (b ^^^ (c ^^^ d * 256) * 256) * 256 < 2 ^ 32 := hlt 24 ha h2 (by decide)
  have z := stepN_eq_zero 8 h3 (stepN_eq_zero 8 (Pl.stepN_lt 8 h3) (stepN_eq_zero 8 (Pl.stepN_lt 8 (Pl.stepN_lt 8 h3)) (stepN_eq_zero 8 (Pl.stepN_lt 8 (Pl.stepN_lt 8 (Pl.stepN_lt 8 h3))) h)))
  obtain ⟨z1, z2⟩ := xor_low ha z
  obtain ⟨z3, z4⟩ := xor_low hb z2
  obtain ⟨z5, z6⟩ := xor_low hc z4
  exact ⟨z1, z3, z5, z6⟩

/-- A BURST: up to four neighbours -/
theorem burst (l : List Nat) (at' rest a b c d : Nat) (hl : l.length = at' + 4 + rest) (ha : a < 256) (hb : b < 256) (hc : c < 256) (hd : d < 256)
    (h : run 4294967295 (List.zipWith (· ^^^ ·) l (List.replicate at' 0 ++ ([a, b, c, d] ++ List.replicate rest 0))) = run 4294967295 l) : a = 0 ∧ b = 0 ∧ c = 0 ∧ d = 0 := by
  have h2 := run_xor 4294967295 0 l (List.replicate at' 0 ++ ([a, b, c, d] ++ List.replicate rest 0)) (by simp; omega)
  rw [Nat.xor_zero, h] at h2
  have h3 : run 0 (List.replicate at' 0 ++ ([a, b, c, d] ++ List.replicate rest 0)) = 0 := by
    have h4 : run 4294967295 l ^^^ run 4294967295 l = run 4294967295 l ^^^ (run 4294967295 l ^^^ run 0 (List.replicate at' 0 ++ ([a, b, c, d] ++ List.replicate rest 0))) := by rw [← h2]
    rw [Nat.xor_self, ← Nat.xor_assoc, Nat.xor_self, Nat.zero_xor] at h4
    exact h4.symm
  rw [run_append, run_zero_zeros, run_append] at h3
  refine run_four ha hb hc hd (run_zeros rest _ ?_ h3)
  simp only [run_cons, run_nil]
  exact Pl.stepN_lt 8 (Nat.xor_lt_two_pow (n := 32) (Pl.stepN_lt 8 (Nat.xor_lt_two_pow (n := 32) (Pl.stepN_lt 8 (Nat.xor_lt_two_pow (n := 32) (Pl.stepN_lt 8 (by rw [Nat.zero_xor]; omega)) (by omega))) (by omega))) (by omega))

/-- may the bytes be unstamped? -/
def okU (zs : List Int) : Prop :=
  zs.length = 512 ∧ 1 ≤ zs.getD 0 0 ∧ Pl.num ((zs.drop 1).take 2) ≤ 497 ∧ Pl.num ((zs.drop 3).take 8) ≤ 1099511627776 ∧ zeroB (zs.drop (15 + (Pl.num ((zs.drop 1).take 2)).toNat)) = true ∧ Pl.num ((zs.drop 11).take 4) = crc (splice zs 11 [0, 0, 0, 0])

theorem zeroB_eq {l : List Int} (h : zeroB l = true) : l = zeros l.length := by
  unfold zeroB at h
  induction l with
  | nil => rfl
  | cons z r ih =>
    simp only [List.all_cons, Bool.and_eq_true, beq_iff_eq] at h
    rw [h.1, ih h.2]
    simp [zeros, List.replicate_succ]

theorem unstamp_back {zs : List Int} (hb : Pl.isB zs) (h : okU zs) :
    stampZ (zs.getD 0 0) (Pl.num ((zs.drop 3).take 8)) ((zs.drop 15).take (Pl.num ((zs.drop 1).take 2)).toNat) = zs := by
  obtain ⟨hl, h1, h2, h3, h4, h5⟩ := h
  have n0 := Pl.num_nonneg (Pl.isB_take (Pl.isB_drop hb 1) 2)
  obtain ⟨L, hL⟩ := Int.eq_ofNat_of_zero_le n0
  have d2 := Pl.dig_num (Pl.isB_take (Pl.isB_drop hb 1) 2)
  have d8 := Pl.dig_num (Pl.isB_take (Pl.isB_drop hb 3) 8)
  have d4 := Pl.dig_num (Pl.isB_take (Pl.isB_drop hb 11) 4)
  rw [show ((zs.drop 1).take 2).length = 2 from by simp; omega] at d2
  rw [show ((zs.drop 3).take 8).length = 8 from by simp; omega] at d8
  rw [show ((zs.drop 11).take 4).length = 4 from by simp; omega] at d4
  rw [hL] at h2 h4 d2 ⊢
  simp only [Int.toNat_natCast] at h4 ⊢
  have hbody : ((zs.drop 15).take L).length = L := by simp; omega
  have hrest : zs.drop (15 + L) = zeros (497 - L) := by
    rw [zeroB_eq h4]
    congr 1
    simp
    omega
  have hzs : zs = zs.getD 0 0 :: ((zs.drop 1).take 2 ++ ((zs.drop 3).take 8 ++ ((zs.drop 11).take 4 ++ ((zs.drop 15).take L ++ zs.drop (15 + L))))) := by
    have e5 : (zs.drop 15).take L ++ zs.drop (15 + L) = zs.drop 15 := by rw [← List.drop_drop]; exact List.take_append_drop _ _
    have e4 : (zs.drop 11).take 4 ++ zs.drop 15 = zs.drop 11 := by rw [show (15 : Nat) = 11 + 4 from rfl, ← List.drop_drop]; exact List.take_append_drop _ _
    have e8 : (zs.drop 3).take 8 ++ zs.drop 11 = zs.drop 3 := by rw [show (11 : Nat) = 3 + 8 from rfl, ← List.drop_drop]; exact List.take_append_drop _ _
    have e2 : (zs.drop 1).take 2 ++ zs.drop 3 = zs.drop 1 := by rw [show (3 : Nat) = 1 + 2 from rfl, ← List.drop_drop]; exact List.take_append_drop _ _
    rw [e5, e4, e8, e2]
    cases zs with
    | nil => simp at hl
    | cons z r => rfl
  have hbare : splice zs 11 [0, 0, 0, 0] = bareZ (zs.getD 0 0) (Pl.num ((zs.drop 3).take 8)) ((zs.drop 15).take L) := by
    unfold bareZ
    rw [hbody, d2, d8, ← hrest]
    generalize (zs.drop 1).take 2 = A2 at *
    generalize (zs.drop 3).take 8 = A8 at *
    generalize hA4 : (zs.drop 11).take 4 = A4 at *
    generalize (zs.drop 15).take L ++ zs.drop (15 + L) = R at *
    generalize zs.getD 0 0 = K at *
    have l2 : A2.length = 2 := by rw [← d2]; exact Pl.length_dig _ _
    have l8 : A8.length = 8 := by rw [← d8]; exact Pl.length_dig _ _
    have l4 : A4.length = 4 := by rw [← d4]; exact Pl.length_dig _ _
    clear d2 d8 d4 hA4
    rw [hzs]
    match A2, l2 with
    | [a1, a2], _ =>
    match A4, l4 with
    | [q1, q2, q3, q4], _ =>
    match A8, l8 with
    | [b1, b2, b3, b4, b5, b6, b7, b8], _ =>
    simp [splice]
  rw [stampZ_eq, hbody, d2, d8, ← hbare, ← h5, d4, ← hrest]
  exact hzs.symm

end Go.Proofs.Yteaebdonnicbkaa
