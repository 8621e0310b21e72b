/-
  PLAIN: numbers in bytes, the lowest first; the sum, bit by bit and by halves of a byte. No program in it.
-/
import Derived.WalkKit
namespace Go.Proofs.YtbllaacbeagljaaGreatDoor.Pl

/-- the number that bytes make, the lowest first -/
def num : List Int → Int
  | [] => 0
  | z :: r => z + 256 * num r

/-- so many bytes of a number, the lowest first -/
def dig : Int → Nat → List Int
  | _, 0 => []
  | v, n + 1 => v % 256 :: dig (v / 256) n

def isB (l : List Int) : Prop := ∀ z ∈ l, 0 ≤ z ∧ z < 256

theorem isB_nil : isB [] := by intro z h; cases h
theorem isB_cons {z : Int} {l : List Int} : isB (z :: l) ↔ (0 ≤ z ∧ z < 256) ∧ isB l := by simp [isB]
theorem isB_append {a b : List Int} : isB (a ++ b) ↔ isB a ∧ isB b := by
  simp only [isB, List.mem_append]
  exact ⟨fun h => ⟨fun z hz => h z (.inl hz), fun z hz => h z (.inr hz)⟩, fun h z hz => hz.elim (h.1 z) (h.2 z)⟩
theorem isB_take {l : List Int} (h : isB l) (n : Nat) : isB (l.take n) := fun z hz => h z (List.mem_of_mem_take hz)
theorem isB_drop {l : List Int} (h : isB l) (n : Nat) : isB (l.drop n) := fun z hz => h z (List.mem_of_mem_drop hz)
theorem isB_getD {l : List Int} (h : isB l) (k : Nat) : 0 ≤ l[k]?.getD 0 ∧ l[k]?.getD 0 < 256 := by
  by_cases hk : k < l.length
  · simp [hk]; exact h _ (List.getElem_mem hk)
  · simp [List.getElem?_eq_none (Nat.le_of_not_lt hk)]
theorem isB_zeros (n : Nat) : isB (List.replicate n 0) := by
  intro z hz; rw [List.mem_replicate] at hz; omega
theorem isB_dig (v : Int) (n : Nat) : isB (dig v n) := by
  induction n generalizing v with
  | zero => exact isB_nil
  | succ n ih => rw [dig, isB_cons]; exact ⟨by omega, ih _⟩
theorem length_dig (v : Int) (n : Nat) : (dig v n).length = n := by
  induction n generalizing v with
  | zero => rfl
  | succ n ih => simp [dig, ih]

theorem num_nonneg {l : List Int} (h : isB l) : 0 ≤ num l := by
  induction l with
  | nil => simp [num]
  | cons z r ih => rw [isB_cons] at h; have := ih h.2; simp only [num]; omega
theorem num_lt {l : List Int} (h : isB l) : num l < 256 ^ l.length := by
  induction l with
  | nil => simp [num]
  | cons z r ih =>
    rw [isB_cons] at h
    have := ih h.2
    simp only [num, List.length_cons, Int.pow_succ]
    omega
theorem num_dig (v : Int) (n : Nat) (h0 : 0 ≤ v) (h : v < 256 ^ n) : num (dig v n) = v := by
  induction n generalizing v with
  | zero => simp at h; simp [dig, num]; omega
  | succ n ih =>
    rw [Int.pow_succ] at h
    simp only [dig, num]
    rw [ih (v / 256) (by omega) (by omega)]
    omega
theorem dig_num {l : List Int} (h : isB l) : dig (num l) l.length = l := by
  induction l with
  | nil => rfl
  | cons z r ih =>
    rw [isB_cons] at h
    simp only [num, List.length_cons, dig]
    rw [show (z + 256 * num r) % 256 = z by omega, show (z + 256 * num r) / 256 = num r by omega, ih h.2]

/-! ### the walk's own forms -/
theorem num_step {zs : List Int} {k : Nat} (h : k < zs.length) : num (zs.drop k) = zs[k]?.getD 0 + 256 * num (zs.drop (k + 1)) := by
  rw [List.drop_eq_getElem_cons h, num]; simp [h]

theorem pow8 : (256 : Int) ^ 8 = 18446744073709551616 := by decide
theorem pow_le {n : Nat} (h : n ≤ 8) : (256 : Int) ^ n ≤ 18446744073709551616 := by
  rcases (show n = 0 ∨ n = 1 ∨ n = 2 ∨ n = 3 ∨ n = 4 ∨ n = 5 ∨ n = 6 ∨ n = 7 ∨ n = 8 from by omega) with rfl | rfl | rfl | rfl | rfl | rfl | rfl | rfl | rfl <;> decide

theorem lor_add (a b : Nat) (h : b < 256) : (a * 256) ||| b = a * 256 + b := by
  have := Nat.shiftLeft_add_eq_or_of_lt (i := 8) (b := b) (by simpa using h) a
  rw [Nat.shiftLeft_eq] at this
  simpa using this.symm

/-! ### the sum -/
def poly : Nat := 2197175160
def step1 (s : Nat) : Nat := if s % 2 = 1 then (s / 2) ^^^ poly else s / 2
def stepN : Nat → Nat → Nat
  | 0, s => s
  | n + 1, s => stepN n (step1 s)
def sumB (s b : Nat) : Nat := stepN 8 (s ^^^ b)
def sums (s : Nat) (l : List Nat) : Nat := l.foldl sumB s

theorem step1_xor (a b : Nat) : step1 (a ^^^ b) = step1 a ^^^ step1 b := by
  have h2 : (a ^^^ b) / 2 = a / 2 ^^^ b / 2 := by
    have := Nat.shiftRight_xor_distrib (a := a) (b := b) (i := 1)
    simpa [Nat.shiftRight_eq_div_pow] using this
  have hm : (a ^^^ b) % 2 = (a + b) % 2 := by
    have h := Nat.testBit_xor a b 0
    rw [Nat.testBit_zero, Nat.testBit_zero, Nat.testBit_zero] at h
    rw [Nat.add_mod]
    have hx := Nat.mod_two_eq_zero_or_one (a ^^^ b)
    have ha := Nat.mod_two_eq_zero_or_one a
    have hb := Nat.mod_two_eq_zero_or_one b
    generalize (a ^^^ b) % 2 = x at *
    generalize a % 2 = y at *
    generalize b % 2 = z at *
    rcases hx with rfl | rfl <;> rcases ha with rfl | rfl <;> rcases hb with rfl | rfl <;> first | rfl | (revert h; decide)
  unfold step1
  rw [h2, hm]
  rcases Nat.mod_two_eq_zero_or_one a with ha | ha <;> rcases Nat.mod_two_eq_zero_or_one b with hb | hb
  · rw [if_neg (by omega), if_neg (by omega), if_neg (by omega)]
  · rw [if_pos (by omega), if_neg (by omega), if_pos (by omega), Nat.xor_assoc]
  · rw [if_pos (by omega), if_pos (by omega), if_neg (by omega), Nat.xor_assoc, Nat.xor_assoc, Nat.xor_comm poly]
  · rw [if_neg (by omega), if_pos (by omega), if_pos (by omega)]
    rw [Nat.xor_assoc, ← Nat.xor_assoc poly, Nat.xor_comm poly, Nat.xor_assoc (b / 2), Nat.xor_self, Nat.xor_zero]
theorem stepN_xor (n a b : Nat) : stepN n (a ^^^ b) = stepN n a ^^^ stepN n b := by
  induction n generalizing a b with
  | zero => rfl
  | succ n ih => simp only [stepN, step1_xor, ih]
theorem stepN_add (m n s : Nat) : stepN (m + n) s = stepN n (stepN m s) := by
  induction m generalizing s with
  | zero => simp [stepN]
  | succ m ih => rw [Nat.succ_add]; simp only [stepN]; exact ih _
theorem stepN_zero (n : Nat) : stepN n 0 = 0 := by
  induction n with
  | zero => rfl
  | succ n ih => simpa [stepN, step1] using ih
/-- what is a multiple of 2^n is moved alone -/
theorem stepN_mul (n s : Nat) : stepN n (s * 2 ^ n) = s := by
  induction n with
  | zero => simp [stepN]
  | succ n ih =>
    have e : s * 2 ^ (n + 1) = s * 2 ^ n * 2 := by rw [Nat.pow_succ, Nat.mul_assoc]
    have : step1 (s * 2 ^ (n + 1)) = s * 2 ^ n := by
      unfold step1; rw [e, if_neg (by omega)]; omega
    rw [stepN, this, ih]
theorem split16 (s : Nat) : s = (s / 16 * 16) ^^^ (s % 16) := by
  have h : (s / 16) * 16 ||| (s % 16) = s / 16 * 16 + s % 16 := by
    have := Nat.shiftLeft_add_eq_or_of_lt (i := 4) (b := s % 16) (Nat.mod_lt _ (by decide)) (s / 16)
    rw [Nat.shiftLeft_eq] at this
    simpa using this.symm
  have hx : (s / 16) * 16 ^^^ (s % 16) = (s / 16) * 16 ||| (s % 16) := by
    apply Nat.eq_of_testBit_eq
    intro i
    rw [Nat.testBit_xor, Nat.testBit_or]
    have h1 : (s / 16 * 16).testBit i = (decide (4 ≤ i) && (s / 16).testBit (i - 4)) := by
      have := Nat.testBit_mul_two_pow (s / 16) i 4
      simpa using this
    have h2 : (s % 16).testBit i = (decide (i < 4) && s.testBit i) := by
      have := Nat.testBit_mod_two_pow s 4 i
      simpa using this
    rw [h1, h2]
    by_cases hi : i < 4
    · have : ¬ 4 ≤ i := by omega
      simp [this]
    · simp [hi]
  rw [hx, h]; omega
theorem step4 (s : Nat) : stepN 4 s = (s / 16) ^^^ stepN 4 (s % 16) := by
  have h := stepN_xor 4 (s / 16 * 16) (s % 16)
  rw [← split16] at h
  rw [h, show s / 16 * 16 = s / 16 * 2 ^ 4 from by omega, stepN_mul]
theorem step8 (s : Nat) : stepN 8 s = stepN 4 (stepN 4 s) := stepN_add 4 4 s

theorem poly_lt : poly < 4294967296 := by decide
theorem step1_lt {s : Nat} (h : s < 4294967296) : step1 s < 4294967296 := by
  unfold step1
  split
  · exact Nat.xor_lt_two_pow (n := 32) (by omega) poly_lt
  · omega
theorem stepN_lt (n : Nat) {s : Nat} (h : s < 4294967296) : stepN n s < 4294967296 := by
  induction n generalizing s with
  | zero => exact h
  | succ n ih => exact ih (step1_lt h)
theorem sumB_lt {s b : Nat} (h : s < 4294967296) (hb : b < 256) : sumB s b < 4294967296 :=
  stepN_lt 8 (Nat.xor_lt_two_pow (n := 32) h (by omega))

end Go.Proofs.YtbllaacbeagljaaGreatDoor.Pl
