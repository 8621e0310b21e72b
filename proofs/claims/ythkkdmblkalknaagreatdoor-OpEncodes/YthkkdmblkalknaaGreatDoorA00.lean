import Derived.WalkKit
import Derived.Laws.CopyOwn
import Derived.Test.YthkkdmblkalknaaGreatDoorRows
import Derived.WalkSpells
import Derived.WalkLawsBesides
import Derived.Laws.BitsAllLaws
/-
  PLAIN: numbers in bytes, the lowest first; the sum, bit by bit and by halves of a byte. No program in it.
-/
namespace Go.Proofs.YthkkdmblkalknaaGreatDoor.Pl

/-- the number that bytes make, the lowest first -/
def num : List Int → Int
  | [] => 0
  | z :: r => z + 256 * num r

/-- so many bytes of a number, the lowest first -/
def dig : Int → Nat → List Int
  | _, 0 => []
  | v, n + 1 => v % 256 :: dig (v / 256) n

def isB (l : List Int) : Prop := ∀ z ∈ l, 0 ≤ z ∧ z < 256

theorem isB_nil : isB [] := by intro z h; cases h
theorem isB_cons {z : Int} {l : List Int} : isB (z :: l) ↔ (0 ≤ z ∧ z < 256) ∧ isB l := by simp [isB]
theorem isB_append {a b : List Int} : isB (a ++ b) ↔ isB a ∧ isB b := by
  simp only [isB, List.mem_append]
  exact ⟨fun h => ⟨fun z hz => h z (.inl hz), fun z hz => h z (.inr hz)⟩, fun h z hz => hz.elim (h.1 z) (h.2 z)⟩
theorem isB_take {l : List Int} (h : isB l) (n : Nat) : isB (l.take n) := fun z hz => h z (List.mem_of_mem_take hz)
theorem isB_drop {l : List Int} (h : isB l) (n : Nat) : isB (l.drop n) := fun z hz => h z (List.mem_of_mem_drop hz)
theorem isB_getD {l : List Int} (h : isB l) (k : Nat) : 0 ≤ l[k]?.getD 0 ∧ l[k]?.getD 0 < 256 := by
  by_cases hk : k < l.length
  · simp [hk]; exact h _ (List.getElem_mem hk)
  · simp [List.getElem?_eq_none (Nat.le_of_not_lt hk)]
theorem isB_zeros (n : Nat) : isB (List.replicate n 0) := by
  intro z hz; rw [List.mem_replicate] at hz; omega
theorem isB_dig (v : Int) (n : Nat) : isB (dig v n) := by
  induction n generalizing v with
  | zero => exact isB_nil
  | succ n ih => rw [dig, isB_cons]; exact ⟨by omega, ih _⟩
theorem length_dig (v : Int) (n : Nat) : (dig v n).length = n := by
  induction n generalizing v with
  | zero => rfl
  | succ n ih => simp [dig, ih]

theorem num_nonneg {l : List Int} (h : isB l) : 0 ≤ num l := by
  induction l with
  | nil => simp [num]
  | cons z r ih => rw [isB_cons] at h; have := ih h.2; simp only [num]; omega
theorem num_lt {l : List Int} (h : isB l) : num l < 256 ^ l.length := by
  induction l with
  | nil => simp [num]
  | cons z r ih =>
    rw [isB_cons] at h
    have := ih h.2
    simp only [num, List.length_cons, Int.pow_succ]
    omega
theorem num_dig (v : Int) (n : Nat) (h0 : 0 ≤ v) (h : v < 256 ^ n) : num (dig v n) = v := by
  induction n generalizing v with
  | zero => simp at h; simp [dig, num]; omega
  | succ n ih =>
    rw [Int.pow_succ] at h
    simp only [dig, num]
    rw [ih (v / 256) (by omega) (by omega)]
    omega
theorem dig_num {l : List Int} (h : isB l) : dig (num l) l.length = l := by
  induction l with
  | nil => rfl
  | cons z r ih =>
    rw [isB_cons] at h
    simp only [num, List.length_cons, dig]
    rw [show (z + 256 * num r) % 256 = z by omega, show (z + 256 * num r) / 256 = num r by omega, ih h.2]

/-! ### the walk's own forms -/
theorem num_step {zs : List Int} {k : Nat} (h : k < zs.length) : num (zs.drop k) = zs[k]?.getD 0 + 256 * num (zs.drop (k + 1)) := by
  rw [List.drop_eq_getElem_cons h, num]; simp [h]

theorem pow8 : (256 : Int) ^ 8 = 18446744073709551616 := by decide
theorem pow_le {n : Nat} (h : n ≤ 8) : (256 : Int) ^ n ≤ 18446744073709551616 := by
  rcases (show n = 0 ∨ n = 1 ∨ n = 2 ∨ n = 3 ∨ n = 4 ∨ n = 5 ∨ n = 6 ∨ n = 7 ∨ n = 8 from by omega) with rfl | rfl | rfl | rfl | rfl | rfl | rfl | rfl | rfl <;> decide

theorem lor_add (a b : Nat) (h : b < 256) : (a * 256) ||| b = a * 256 + b := by
  have := Nat.shiftLeft_add_eq_or_of_lt (i := 8) (b := b) (by simpa using h) a
  rw [Nat.shiftLeft_eq] at this
  simpa using this.symm

/-! ### the sum -/
def poly : Nat := 2197175160
def step1 (s : Nat) : Nat := if s % 2 = 1 then (s / 2) ^^^ poly else s / 2
def stepN : Nat → Nat → Nat
  | 0, s => s
  | n + 1, s => stepN n (step1 s)
def sumB (s b : Nat) : Nat := stepN 8 (s ^^^ b)
def sums (s : Nat) (l : List Nat) : Nat := l.foldl sumB s

theorem step1_xor (a b : Nat) : step1 (a ^^^ b) = step1 a ^^^ step1 b := by
  have h2 : (a ^^^ b) / 2 = a / 2 ^^^ b / 2 := by
    have := Nat.shiftRight_xor_distrib (a := a) (b := b) (i := 1)
    simpa [Nat.shiftRight_eq_div_pow] using this
  have hm : (a ^^^ b) % 2 = (a + b) % 2 := by
    have h := Nat.testBit_xor a b 0
    rw [Nat.testBit_zero, Nat.testBit_zero, Nat.testBit_zero] at h
    rw [Nat.add_mod]
    have hx := Nat.mod_two_eq_zero_or_one (a ^^^ b)
    have ha := Nat.mod_two_eq_zero_or_one a
    have hb := Nat.mod_two_eq_zero_or_one b
    generalize (a ^^^ b) % 2 = x at *
    generalize a % 2 = y at *
    generalize b % 2 = z at *
    rcases hx with rfl | rfl <;> rcases ha with rfl | rfl <;> rcases hb with rfl | rfl <;> first | rfl | (revert h; decide)
  unfold step1
  rw [h2, hm]
  rcases Nat.mod_two_eq_zero_or_one a with ha | ha <;> rcases Nat.mod_two_eq_zero_or_one b with hb | hb
  · rw [if_neg (by omega), if_neg (by omega), if_neg (by omega)]
  · rw [if_pos (by omega), if_neg (by omega), if_pos (by omega), Nat.xor_assoc]
  · rw [if_pos (by omega), if_pos (by omega), if_neg (by omega), Nat.xor_assoc, Nat.xor_assoc, Nat.xor_comm poly]
  · rw [if_neg (by omega), if_pos (by omega), if_pos (by omega)]
    rw [Nat.xor_assoc, ← Nat.xor_assoc poly, Nat.xor_comm poly, Nat.xor_assoc (b / 2), Nat.xor_self, Nat.xor_zero]
theorem stepN_xor (n a b : Nat) : stepN n (a ^^^ b) = stepN n a ^^^ stepN n b := by
  induction n generalizing a b with
  | zero => rfl
  | succ n ih => simp only [stepN, step1_xor, ih]
theorem stepN_add (m n s : Nat) : stepN (m + n) s = stepN n (stepN m s) := by
  induction m generalizing s with
  | zero => simp [stepN]
  | succ m ih => rw [Nat.succ_add]; simp only [stepN]; exact ih _
theorem stepN_zero (n : Nat) : stepN n 0 = 0 := by
  induction n with
  | zero => rfl
  | succ n ih => simpa [stepN, step1] using ih
/-- what is a multiple of 2^n is moved alone -/
theorem stepN_mul (n s : Nat) : stepN n (s * 2 ^ n) = s := by
  induction n with
  | zero => simp [stepN]
  | succ n ih =>
    have e : s * 2 ^ (n + 1) = s * 2 ^ n * 2 := by rw [Nat.pow_succ, Nat.mul_assoc]
    have : step1 (s * 2 ^ (n + 1)) = s * 2 ^ n := by
      unfold step1; rw [e, if_neg (by omega)]; omega
    rw [stepN, this, ih]
theorem split16 (s : Nat) : s = (s / 16 * 16) ^^^ (s % 16) := by
  have h : (s / 16) * 16 ||| (s % 16) = s / 16 * 16 + s % 16 := by
    have := Nat.shiftLeft_add_eq_or_of_lt (i := 4) (b := s % 16) (Nat.mod_lt _ (by decide)) (s / 16)
    rw [Nat.shiftLeft_eq] at this
    simpa using this.symm
  have hx : (s / 16) * 16 ^^^ (s % 16) = (s / 16) * 16 ||| (s % 16) := by
    apply Nat.eq_of_testBit_eq
    intro i
    rw [Nat.testBit_xor, Nat.testBit_or]
    have h1 : (s / 16 * 16).testBit i = (decide (4 ≤ i) && (s / 16).testBit (i - 4)) := by
      have := Nat.testBit_mul_two_pow (s / 16) i 4
      simpa using this
    have h2 : (s % 16).testBit i = (decide (i < 4) && s.testBit i) := by
      have := Nat.testBit_mod_two_pow s 4 i
      simpa using this
    rw [h1, h2]
    by_cases hi : i < 4
    · have : ¬ 4 ≤ i := by omega
      simp [this]
    · simp [hi]
  rw [hx, h]; omega
theorem step4 (s : Nat) : stepN 4 s = (s / 16) ^^^ stepN 4 (s % 16) := by
  have h := stepN_xor 4 (s / 16 * 16) (s % 16)
  rw [← split16] at h
  rw [h, show s / 16 * 16 = s / 16 * 2 ^ 4 from by omega, stepN_mul]
theorem step8 (s : Nat) : stepN 8 s = stepN 4 (stepN 4 s) := stepN_add 4 4 s

theorem poly_lt : poly < 4294967296 := by decide
theorem step1_lt {s : Nat} (h : s < 4294967296) : step1 s < 4294967296 := by
  unfold step1
  split
  · exact Nat.xor_lt_two_pow (n := 32) (by omega) poly_lt
  · omega
theorem stepN_lt (n : Nat) {s : Nat} (h : s < 4294967296) : stepN n s < 4294967296 := by
  induction n generalizing s with
  | zero => exact h
  | succ n ih => exact ih (step1_lt h)
theorem sumB_lt {s b : Nat} (h : s < 4294967296) (hb : b < 256) : sumB s b < 4294967296 :=
  stepN_lt 8 (Nat.xor_lt_two_pow (n := 32) h (by omega))

end Go.Proofs.YthkkdmblkalknaaGreatDoor.Pl
/-
  A BLOCK OF NUMBERS THAT IS KNOWN WHOLE, and what one store makes of it. No program in it.
-/
namespace Go.Proofs.YthkkdmblkalknaaGreatDoor
open Go.RowKit

/-- block g holds just the numbers zs (kind k, element type e), none of them frozen -/
def Blk (k : IntKind) (e : TypeId) (w : World) (g : Nat) (zs : List Int) : Prop := w.heap[g]? = some (.cells (zs.map (Value.int k)).toArray e (0, 0))

theorem Blk.lt {k : IntKind} {e : TypeId} {w : World} {g : Nat} {zs : List Int} (h : Blk k e w g zs) : g < w.heap.size := by
  unfold Blk at h
  exact (Array.getElem?_eq_some_iff.1 h).1
theorem Blk.cell {k : IntKind} {e : TypeId} {w : World} {g : Nat} {zs : List Int} (h : Blk k e w g zs) (t : Nat) (ht : t < zs.length) : w.cell? ⟨g, t, none⟩ = some (.int k (zs.getD t 0)) := by
  unfold Blk at h
  simp [World.cell?, h, ht]
theorem Blk.frozen {k : IntKind} {e : TypeId} {w : World} {g : Nat} {zs : List Int} (h : Blk k e w g zs) (t : Nat) : w.frozen? ⟨g, t, none⟩ = false := by
  unfold Blk at h
  simp [World.frozen?, h]
theorem Blk.set {k : IntKind} {e : TypeId} {w : World} {g : Nat} {zs : List Int} (h : Blk k e w g zs) (t : Nat) (x : Int) : Blk k e (w.setCell ⟨g, t, none⟩ (.int k x)) g (zs.set t x) := by
  unfold Blk at *
  simp only [World.setCell, Array.getElem?_modify]
  rw [h]
  simp
theorem Blk.of_block {k : IntKind} {e : TypeId} {w w' : World} {g : Nat} {zs : List Int} (h : Blk k e w g zs) (hw : w'.heap[g]? = w.heap[g]?) : Blk k e w' g zs := by
  unfold Blk at *; rw [hw]; exact h
theorem Blk.below {k : IntKind} {e : TypeId} {B : Nat} {w w' : World} {g : Nat} {zs : List Int} (h : Blk k e w g zs) (hb : Below B w w') (hg : g < B) : Blk k e w' g zs := h.of_block (hb.block g hg)
theorem Blk.grown {k : IntKind} {e : TypeId} {w w' : World} {g : Nat} {zs : List Int} {r : Option Nat} (h : Blk k e w g zs) (hb : w.grownBy w' r) (hg : some g ≠ r) : Blk k e w' g zs := h.of_block (hb.block g h.lt hg)
theorem Blk.alloc {k : IntKind} {e : TypeId} {w : World} {g : Nat} {zs : List Int} (h : Blk k e w g zs) (o : Obj) : Blk k e (w.alloc o) g zs := h.of_block (Below.heap_alloc _ _ _ h.lt)
theorem Blk.drew {k : IntKind} {e : TypeId} {w : World} {g : Nat} {zs : List Int} (h : Blk k e w g zs) : Blk k e w.drew g zs := h
theorem Blk.setOther {k : IntKind} {e : TypeId} {w : World} {g : Nat} {zs : List Int} (h : Blk k e w g zs) {p : Addr} (hp : g ≠ p.block) (u : Value) : Blk k e (w.setCell p u) g zs := h.of_block (Below.heap_setCell _ _ _ _ hp)
theorem Blk.new {k : IntKind} {e : TypeId} (w : World) (zs : List Int) : Blk k e (w.alloc (.cells (zs.map (Value.int k)).toArray e (0, 0))) w.heap.size zs := by
  unfold Blk
  show (w.heap.push _)[w.heap.size]? = _
  simp

/-- out of a row that the call made whole -/
theorem Blk.of_owns {k : IntKind} {e : TypeId} {w : World} {base g n : Nat} {xs : List Value} {zs : List Int} (h : w.ownsRow base e 1 (.slice (some ⟨g, 0, none⟩) n n) n xs) (hx : xs = zs.map (Value.int k)) : Blk k e w g zs := by
  obtain ⟨_, h2⟩ := h
  rcases h2 with ⟨h2, _⟩ | ⟨g', cap, cur, hv, _, hh, _, _, hs, ht⟩
  · cases h2
  · simp at hv
    obtain ⟨rfl, rfl⟩ := hv
    unfold Blk
    rw [hh, ← hx, ← ht]
    congr 2
    simp at hs
    rw [List.take_of_length_le (by simp [hs])]

theorem grown_set {w w' : World} {g : Nat} (h : w.grownBy w' (some g)) {p : Addr} (hp : p.block = g) (u : Value) : w.grownBy (w'.setCell p u) (some g) :=
  ⟨h.os, h.tape, h.output, by simpa [World.setCell] using h.size, fun k hk hne => by
    rw [Below.heap_setCell _ _ _ _ (by intro e; apply hne; rw [e, hp])]; exact h.block k hk hne⟩

/-! ### splice -/
theorem splice_nil (L : List Int) (off : Nat) : splice L off [] = L := by simp [splice]
theorem splice_cons (L : List Int) (off : Nat) (x : Int) (r : List Int) (h : off < L.length) : splice L off (x :: r) = splice (L.set off x) (off + 1) r := by
  unfold splice
  have e1 : (L.set off x).take (off + 1) = L.take off ++ [x] := by
    rw [List.take_succ_eq_append_getElem (by simpa using h), List.take_set_of_le (Nat.le_refl _)]
    simp
  rw [e1, List.drop_set_of_lt (by omega)]
  simp [Nat.add_comm, Nat.add_left_comm]
theorem isB_splice {L cs : List Int} (h : Pl.isB L) (h2 : Pl.isB cs) (off : Nat) : Pl.isB (splice L off cs) := by
  unfold splice
  exact Pl.isB_append.2 ⟨Pl.isB_take h _, Pl.isB_append.2 ⟨h2, Pl.isB_drop h _⟩⟩

end Go.Proofs.YthkkdmblkalknaaGreatDoor
/-
  THE LEAVES: what the small functions answer, over bytes that are only read.
-/
namespace Go.Proofs.YthkkdmblkalknaaGreatDoor
open Go.RowKit

theorem or_u64 {A z : Int} (h0 : 0 ≤ A) (h1 : A < 72057594037927936) (z0 : 0 ≤ z) (z1 : z < 256) :
    bits BinOp.or IntKind.u64 (IntKind.u64.wrap (A * 256)) (IntKind.u64.wrap z) = z + 256 * A := by
  obtain ⟨a, rfl⟩ := Int.eq_ofNat_of_zero_le h0
  obtain ⟨y, rfl⟩ := Int.eq_ofNat_of_zero_le z0
  rw [IntKind.wrap_u64, IntKind.wrap_u64, show ((a : Int) * 256) % 18446744073709551616 = ((a * 256 : Nat) : Int) by omega, show ((y : Int)) % 18446744073709551616 = ((y : Nat) : Int) by omega,
    u64_or_nat _ _ (by omega) (by omega), Pl.lor_add a y (by omega)]
  omega

set_option maxHeartbeats 400000 in
theorem num_any (x : Int) (w : World) :
    Calls Tryz.prog 13 #[.int .i64 x] w fun e w' => e = .returned (.int .i64 x) ∧ w' = w := by
  go_enter Tryz.func13, Tryz.ntmps13
  go_wp2
  go_ret
  exact ⟨rfl, rfl⟩

def wfB (x : Int) : Bool := decide (1 ≤ x) && decide (x ≤ 8)

set_option maxHeartbeats 400000 in
theorem widthFits_any (x : Int) (w : World) :
    Calls Tryz.prog 128 #[.int .i64 x] w fun e w' => e = .returned (.bool (wfB x)) ∧ w' = w := by
  go_enter Tryz.func128, Tryz.ntmps128
  go_wp2
  all_goals go_ret
  · exact ⟨by simp [wfB, *], rfl⟩
  · exact ⟨by simp [wfB]; omega, rfl⟩

theorem num_lt7 {zs : List Int} (hb : Pl.isB zs) (j : Nat) (hn : zs.length ≤ 8) : Pl.num (zs.drop (j + 1)) < 72057594037927936 := by
  have h := Pl.num_lt (Pl.isB_drop hb (j + 1))
  have hl : (zs.drop (j + 1)).length ≤ 7 := by simp; omega
  have h2 : (256 : Int) ^ (zs.drop (j + 1)).length ≤ 72057594037927936 := by
    generalize (zs.drop (j + 1)).length = n at hl
    rcases (show n = 0 ∨ n = 1 ∨ n = 2 ∨ n = 3 ∨ n = 4 ∨ n = 5 ∨ n = 6 ∨ n = 7 from by omega) with rfl | rfl | rfl | rfl | rfl | rfl | rfl | rfl <;> decide
  omega

theorem getNumber_step {zs : List Int} (hb : Pl.isB zs) {j : Nat} (hj : j < zs.length) (hn : zs.length ≤ 8) :
    bits BinOp.or IntKind.u64 (IntKind.u64.wrap (Pl.num (List.drop (j + 1) zs) * 256)) (IntKind.u64.wrap (zs[j]?.getD 0)) = Pl.num (zs.drop j) := by
  rw [Pl.num_step hj]
  have hz := Pl.isB_getD hb j
  exact or_u64 (Pl.num_nonneg (Pl.isB_drop hb _)) (num_lt7 hb j hn) hz.1 hz.2

set_option maxHeartbeats 400000 in
theorem getNumber_any (b off n cap : Nat) (zs : List Int) (w : World) (hn : n ≤ 8) (hz : zs.length = n) (hb : Pl.isB zs)
    (hc : ∀ t, t < n → w.cell? ⟨b, off + t, none⟩ = some (.int .u8 (zs.getD t 0))) :
    Calls Tryz.prog 129 #[.slice (some ⟨b, off, none⟩) n cap] w fun e w' => e = .returned (.int .u64 (Pl.num zs)) ∧ w' = w := by
  go_enter Tryz.func129, Tryz.ntmps129
  go_wp2
  go_loop [3, 4] (fun s i => ∃ k : Nat, k ≤ n ∧ i = .int .i64 ((k : Int) - 1) ∧ s = .int .u64 (Pl.num (zs.drop k))) (fun _ i => (intOf i + 1).toNat)
  case atStart => exact ⟨n, Nat.le_refl _, rfl, by rw [List.drop_of_length_le (by omega)]; rfl⟩
  case round =>
    obtain ⟨k, hk, rfl, rfl⟩ := hrel
    by_cases h0 : k = 0
    · subst h0
      go_wp2
      go_ret
      exact ⟨by simp, rfl⟩
    · obtain ⟨j, rfl⟩ : ∃ j, k = j + 1 := ⟨k - 1, by omega⟩
      have hcj := hc j (by omega)
      go_wp2
      go_round
      case rel => exact ⟨j, by omega, rfl, by rw [getNumber_step hb (by omega) (by omega)]⟩
      case measure => simp [intOf]

/-- BYTES THAT ARE READ: n of them, at an address below block B (of none of them nothing is known) -/
def Rd (B : Nat) (w : World) (a : Option Addr) (n : Nat) (zs : List Int) : Prop :=
  zs.length = n ∧ Pl.isB zs ∧ (n = 0 ∨ ∃ b off, a = some ⟨b, off, none⟩ ∧ b < B ∧ ∀ t, t < n → w.cell? ⟨b, off + t, none⟩ = some (.int .u8 (zs.getD t 0)))

theorem Rd.below {B : Nat} {w w' : World} {a : Option Addr} {n : Nat} {zs : List Int} (h : Rd B w a n zs) (hb : Below B w w') : Rd B w' a n zs := by
  obtain ⟨h1, h2, h3⟩ := h
  refine ⟨h1, h2, ?_⟩
  rcases h3 with h3 | ⟨b, off, rfl, hlt, hc⟩
  · exact .inl h3
  · exact .inr ⟨b, off, rfl, hlt, fun t ht => (hb.cell (by exact hlt)).trans (hc t ht)⟩
theorem Rd.mono {B B' : Nat} {w : World} {a : Option Addr} {n : Nat} {zs : List Int} (h : Rd B w a n zs) (hb : B ≤ B') : Rd B' w a n zs := by
  obtain ⟨h1, h2, h3⟩ := h
  refine ⟨h1, h2, ?_⟩
  rcases h3 with h3 | ⟨b, off, rfl, hlt, hc⟩
  · exact .inl h3
  · exact .inr ⟨b, off, rfl, by omega, hc⟩

def zeroB (zs : List Int) : Bool := zs.all (· == 0)
theorem zeroB_step {zs : List Int} {k : Nat} (h : zeroB (zs.take k) = true) (he : zs[k]?.getD 0 = 0) : zeroB (zs.take (k + 1)) = true := by
  unfold zeroB at *
  rw [List.take_add_one, List.all_append, h]
  cases hk : zs[k]? <;> simp_all
theorem zeroB_not {zs : List Int} {k : Nat} (he : zs[k]?.getD 0 ≠ 0) : zeroB zs = false := by
  unfold zeroB
  rw [List.all_eq_false]
  cases hk : zs[k]? with
  | none => simp [hk] at he
  | some z => exact ⟨z, List.mem_of_getElem? hk, by simpa [hk] using he⟩

set_option maxHeartbeats 400000 in
theorem putNumber_any (g off n cap : Nat) (v : Int) (zs : List Int) (w : World) (hn : n ≤ 8) (h0 : 0 ≤ v) (h1 : v < 18446744073709551616) (hB : Blk .u8 5 w g zs) (hl : off + n ≤ zs.length) :
    Calls Tryz.prog 125 #[.slice (some ⟨g, off, none⟩) n cap, .int .u64 v] w fun e w' => e = .returned (.tuple #[]) ∧ w'.heap.size = w.heap.size ∧ w.grownBy w' (some g) ∧ Blk .u8 5 w' g (splice zs off (Pl.dig v n)) := by
  go_enter Tryz.func125, Tryz.ntmps125
  go_wp2
  go_loopw [1, 7] (fun s i wr => ∃ (k : Nat) (u : Int) (ys : List Int), k ≤ n ∧ 0 ≤ u ∧ u < 18446744073709551616 ∧ i = .int .i64 (k : Int) ∧ s = .int .u64 u ∧ Blk .u8 5 wr g ys ∧ ys.length = zs.length ∧
      splice ys (off + k) (Pl.dig u (n - k)) = splice zs off (Pl.dig v n) ∧ wr.heap.size = w.heap.size ∧ w.grownBy wr (some g)) (fun _ i _ => n - (intOf i).toNat)
  case atStart => exact ⟨0, v, zs, Nat.zero_le _, h0, h1, rfl, rfl, hB, rfl, by simp, rfl, World.grownBy.refl _ _⟩
  case round =>
    obtain ⟨k, u, ys, hk, u0, u1, rfl, rfl, hBk, hyl, hsp, hsz, hgr⟩ := hrel
    by_cases hlt : k < n
    · have hc := hBk.cell (off + k) (by omega)
      have hf := hBk.frozen (off + k)
      go_wp2
      go_roundw
      case rel =>
        refine ⟨k + 1, u / 256, ys.set (off + k) (u % 256), by omega, by omega, by omega, by go_num, rfl, hBk.set _ _, by simpa using hyl, ?_, by simpa [World.setCell] using hsz, grown_set hgr rfl _⟩
        rw [← hsp, show n - k = (n - (k + 1)) + 1 by omega, Pl.dig, splice_cons _ _ _ _ (by omega)]
        rfl
      case measure => simp [intOf]; omega
    · go_wp2
      go_end0
      rw [show n - k = 0 by omega, Pl.dig, splice_nil] at hsp
      exact ⟨rfl, hsz, hgr, hsp ▸ hBk⟩

theorem hid {p : Prop} (h : p) : Hid p := h
theorem take_snoc {L : List Int} {j : Nat} (h : j < L.length) : L.take (j + 1) = L.take j ++ [L[j]?.getD 0] := by
  rw [List.take_add_one]; simp [h]
theorem two_below (w : World) (o p : Obj) : Below w.heap.size w ((w.alloc o).alloc p) := ((Below.refl _ _).alloc (Nat.le_refl _) _).alloc (by simp) _
end Go.Proofs.YthkkdmblkalknaaGreatDoor
/-
  make([]byte, n), make([]int, n): the run's equations.
-/
namespace Go.Proofs.YthkkdmblkalknaaGreatDoor
open Go.RowKit

theorem info5 : (Tryz.prog.info? 5).map (fun i => (i.zero, i.size, i.bytes)) = some (some (.int .u8 0), 1, 1) := by kernel_rfl
theorem info3 : (Tryz.prog.info? 3).map (fun i => (i.zero, i.size, i.bytes)) = some (some (.int .i64 0), 1, 8) := by kernel_rfl
/-- so many noughts -/
def zeros (n : Nat) : List Int := List.replicate n 0
theorem length_zeros (n : Nat) : (zeros n).length = n := by simp [zeros]
theorem isB_zeros (n : Nat) : Pl.isB (zeros n) := Pl.isB_zeros n

theorem made_zeros (k : IntKind) (n : Nat) : madeCells #[.int k 0] n = ((zeros n).map (Value.int k)).toArray := by
  rw [← Array.toList_inj, toList_madeCells_one]
  simp [zeros]

theorem make_u8 (n : Nat) (hn : n ≤ 1073741824) (u : World) : (Instr.makeSlice 23 (.int .i64 (n : Int)) (.int .i64 (n : Int))).run Tryz.prog u =
    .ok (.slice (some ⟨u.heap.size, 0, none⟩) n n) (u.alloc (.cells ((zeros n).map (Value.int .u8)).toArray 5)) := by
  obtain ⟨i0, hi, hz0, hz1, hz2⟩ := info_parts info5
  have h := run_make (P := Tryz.prog) u 23 5 i0 (.int .u8 0) Tryz.underlying23 hi hz0 .i64 .i64 (n : Int) (n : Int) (by omega) (Int.le_refl _) (by rw [hz2]; omega) (by omega)
  have e : ((n : Int)).toNat = n := by omega
  rw [e] at h
  rw [← made_zeros]
  simpa [hz1, Value.cells] using h

theorem make_i64 (n : Nat) (hn : n ≤ 1073741824) (u : World) : (Instr.makeSlice 25 (.int .i64 (n : Int)) (.int .i64 (n : Int))).run Tryz.prog u =
    .ok (.slice (some ⟨u.heap.size, 0, none⟩) n n) (u.alloc (.cells ((zeros n).map (Value.int .i64)).toArray 3)) := by
  obtain ⟨i0, hi, hz0, hz1, hz2⟩ := info_parts info3
  have h := run_make (P := Tryz.prog) u 25 3 i0 (.int .i64 0) Tryz.underlying25 hi hz0 .i64 .i64 (n : Int) (n : Int) (by omega) (Int.le_refl _) (by rw [hz2]; omega) (by omega)
  have e : ((n : Int)).toNat = n := by omega
  rw [e] at h
  rw [← made_zeros]
  simpa [hz1, Value.cells] using h

theorem size5 : (Tryz.prog.info? 5).map (·.size) = some 1 := by kernel_rfl
theorem Rd.src {B : Nat} {w : World} {a : Option Addr} {n : Nat} {zs : List Int} (h : Rd B w a n zs) (h0 : 0 < n) : ∃ ad, a = some ad ∧ ∀ j v, (zs.map (Value.int .u8))[j]? = some v → w.cell? (ad.add j) = some v := by
  obtain ⟨h1, h2, h3⟩ := h
  rcases h3 with h3 | ⟨b, off, rfl, hlt, hc⟩
  · omega
  · refine ⟨_, rfl, fun j v hv => ?_⟩
    rw [List.getElem?_map] at hv
    cases hz : zs[j]? with
    | none => rw [hz] at hv; cases hv
    | some z =>
      rw [hz] at hv
      simp at hv
      subst hv
      have hj : j < zs.length := (List.getElem?_eq_some_iff.1 hz).1
      have := hc j (by omega)
      rw [List.getD_eq_getElem?_getD, hz] at this
      rw [show (⟨b, off, none⟩ : Addr).add j = ⟨b, off + j, none⟩ from by unfold Addr.add; split <;> simp_all]
      exact this
theorem u8_one (zs : List Int) : ∀ v ∈ zs.map (Value.int .u8), v.oneCell' = true := ints_oneCell _ _
theorem splice_map (zs cs : List Int) (off : Nat) (k : IntKind) : splice (zs.map (Value.int k)) off (cs.map (Value.int k)) = (splice zs off cs).map (Value.int k) := by simp [splice]

/-- copy into a block of bytes that is known whole -/
theorem copy_u8 (g off dLen dCap : Nat) (a : Option Addr) (n c : Nat) (Y body : List Int) (w : World) (Bn : Nat) (hB : Blk .u8 5 w g Y) (hR : Rd Bn w a n body) (hn : n ≤ dLen) (hfit : off + n ≤ Y.length) :
    ∃ w', Sem.run Tryz.prog (Builtin.copy_ #[23, 23] 3 #[.slice (some ⟨g, off, none⟩) dLen dCap, .slice a n c]) w = .ok (.int .i64 (n : Int)) w' ∧ Blk .u8 5 w' g (splice Y off body) ∧ w'.heap.size = w.heap.size ∧ w.grownBy w' (some g) := by
  have hl := hR.1
  by_cases h0 : n = 0
  · subst h0
    obtain rfl : body = [] := List.length_eq_zero_iff.1 hl
    exact ⟨w, run_copy_none (P := Tryz.prog) w 23 23 3 5 _ _ dLen dCap 0 c Tryz.underlying23 size5 (Nat.zero_min _), by rw [splice_nil]; exact hB, rfl, World.grownBy.refl _ _⟩
  · obtain ⟨ad, rfl, hsrc⟩ := hR.src (by omega)
    have h := run_copy_row (P := Tryz.prog) w 23 23 3 5 g off dLen dCap ad n c (Y.map (Value.int .u8)).toArray 5 (body.map (Value.int .u8)) Tryz.underlying23 size5 hB (by rw [List.length_map, hl]; exact (Nat.min_eq_left hn).symm) hsrc (by simp; omega) (u8_one _)
    refine ⟨w.setRow g ((splice Y off body).map (Value.int .u8)).toArray, h.trans ?_, ?_, by simp, ⟨rfl, rfl, rfl, by simp, fun k _ hk => setRow_other w g k _ (fun e => hk (by rw [e]))⟩⟩
    · rw [← splice_map, List.length_map, hl]
      simp [splice, hl, goInt]
    · unfold Blk
      exact setRow_heap w g _ _ 5 _ hB

end Go.Proofs.YthkkdmblkalknaaGreatDoor
/-
  checkField.
-/
namespace Go.Proofs.YthkkdmblkalknaaGreatDoor
open Go.RowKit

/-- may a field be? 0, or the error -/
def chk (x v : Int) : Int := if wfB x = false then 10 else if v < 0 ∨ 256 ^ x.toNat ≤ v then 11 else 0

set_option maxRecDepth 100000 in
set_option maxHeartbeats 1000000 in
theorem checkField_any (x v : Int) (w : World) (v1 : -9223372036854775808 ≤ v) (v2 : v ≤ 9223372036854775807) :
    Calls Tryz.prog 124 #[.agg #[.int .i64 x, .int .i64 v]] w fun e w' => e = .returned (.int .i64 (chk x v)) ∧ w' = w.alloc (.cells #[.int .i64 x, .int .i64 v] 148) := by
  by_cases hx : wfB x = true
  · have hx' : 1 ≤ x ∧ x ≤ 8 := by simpa [wfB] using hx
    have HX : Hid (wfB x = true) := hx
    by_cases hv : v < 0
    · have e : chk x v = 11 := by simp [chk, hx, hv]
      rw [e]
      clear e
      go_enter Tryz.func124, Tryz.ntmps124
      go_wp2_with (go_at_call 128; refine (widthFits_any _ _).mono ?_; rintro e w' ⟨rfl, rfl⟩)
      go_ret
      exact ⟨rfl, rfl⟩
    · have hv0 : 0 ≤ v := by omega
      have e : chk x v = if 256 ^ x.toNat ≤ v then 11 else 0 := by simp [chk, hx, hv]
      rw [e]
      clear e hv
      rcases (show x = 1 ∨ x = 2 ∨ x = 3 ∨ x = 4 ∨ x = 5 ∨ x = 6 ∨ x = 7 ∨ x = 8 from by omega) with rfl | rfl | rfl | rfl | rfl | rfl | rfl | rfl
      · rw [show (256 : Int) ^ (1 : Int).toNat = 256 from by decide]
        clear hx' HX
        by_cases h : 256 ≤ v
        · have h2 : (v / 256 != 0) = true := by simp; omega
          rw [if_pos h]
          go_enter Tryz.func124, Tryz.ntmps124
          go_wp2_with (go_at_call 128; refine (widthFits_any _ _).mono ?_; rintro e w' ⟨rfl, rfl⟩)
          go_ret
          exact ⟨rfl, rfl⟩
        · have h2 : (v / 256 != 0) = false := by simp; omega
          rw [if_neg h]
          go_enter Tryz.func124, Tryz.ntmps124
          go_wp2_with (go_at_call 128; refine (widthFits_any _ _).mono ?_; rintro e w' ⟨rfl, rfl⟩)
          go_ret
          exact ⟨rfl, rfl⟩
      · rw [show (256 : Int) ^ (2 : Int).toNat = 65536 from by decide]
        clear hx' HX
        by_cases h : 65536 ≤ v
        · have h2 : (v / 65536 != 0) = true := by simp; omega
          rw [if_pos h]
          go_enter Tryz.func124, Tryz.ntmps124
          go_wp2_with (go_at_call 128; refine (widthFits_any _ _).mono ?_; rintro e w' ⟨rfl, rfl⟩)
          go_ret
          exact ⟨rfl, rfl⟩
        · have h2 : (v / 65536 != 0) = false := by simp; omega
          rw [if_neg h]
          go_enter Tryz.func124, Tryz.ntmps124
          go_wp2_with (go_at_call 128; refine (widthFits_any _ _).mono ?_; rintro e w' ⟨rfl, rfl⟩)
          go_ret
          exact ⟨rfl, rfl⟩
      · rw [show (256 : Int) ^ (3 : Int).toNat = 16777216 from by decide]
        clear hx' HX
        by_cases h : 16777216 ≤ v
        · have h2 : (v / 16777216 != 0) = true := by simp; omega
          rw [if_pos h]
          go_enter Tryz.func124, Tryz.ntmps124
          go_wp2_with (go_at_call 128; refine (widthFits_any _ _).mono ?_; rintro e w' ⟨rfl, rfl⟩)
          go_ret
          exact ⟨rfl, rfl⟩
        · have h2 : (v / 16777216 != 0) = false := by simp; omega
          rw [if_neg h]
          go_enter Tryz.func124, Tryz.ntmps124
          go_wp2_with (go_at_call 128; refine (widthFits_any _ _).mono ?_; rintro e w' ⟨rfl, rfl⟩)
          go_ret
          exact ⟨rfl, rfl⟩
      · rw [show (256 : Int) ^ (4 : Int).toNat = 4294967296 from by decide]
        clear hx' HX
        by_cases h : 4294967296 ≤ v
        · have h2 : (v / 4294967296 != 0) = true := by simp; omega
          rw [if_pos h]
          go_enter Tryz.func124, Tryz.ntmps124
          go_wp2_with (go_at_call 128; refine (widthFits_any _ _).mono ?_; rintro e w' ⟨rfl, rfl⟩)
          go_ret
          exact ⟨rfl, rfl⟩
        · have h2 : (v / 4294967296 != 0) = false := by simp; omega
          rw [if_neg h]
          go_enter Tryz.func124, Tryz.ntmps124
          go_wp2_with (go_at_call 128; refine (widthFits_any _ _).mono ?_; rintro e w' ⟨rfl, rfl⟩)
          go_ret
          exact ⟨rfl, rfl⟩
      · rw [show (256 : Int) ^ (5 : Int).toNat = 1099511627776 from by decide]
        clear hx' HX
        by_cases h : 1099511627776 ≤ v
        · have h2 : (v / 1099511627776 != 0) = true := by simp; omega
          rw [if_pos h]
          go_enter Tryz.func124, Tryz.ntmps124
          go_wp2_with (go_at_call 128; refine (widthFits_any _ _).mono ?_; rintro e w' ⟨rfl, rfl⟩)
          go_ret
          exact ⟨rfl, rfl⟩
        · have h2 : (v / 1099511627776 != 0) = false := by simp; omega
          rw [if_neg h]
          go_enter Tryz.func124, Tryz.ntmps124
          go_wp2_with (go_at_call 128; refine (widthFits_any _ _).mono ?_; rintro e w' ⟨rfl, rfl⟩)
          go_ret
          exact ⟨rfl, rfl⟩
      · rw [show (256 : Int) ^ (6 : Int).toNat = 281474976710656 from by decide]
        clear hx' HX
        by_cases h : 281474976710656 ≤ v
        · have h2 : (v / 281474976710656 != 0) = true := by simp; omega
          rw [if_pos h]
          go_enter Tryz.func124, Tryz.ntmps124
          go_wp2_with (go_at_call 128; refine (widthFits_any _ _).mono ?_; rintro e w' ⟨rfl, rfl⟩)
          go_ret
          exact ⟨rfl, rfl⟩
        · have h2 : (v / 281474976710656 != 0) = false := by simp; omega
          rw [if_neg h]
          go_enter Tryz.func124, Tryz.ntmps124
          go_wp2_with (go_at_call 128; refine (widthFits_any _ _).mono ?_; rintro e w' ⟨rfl, rfl⟩)
          go_ret
          exact ⟨rfl, rfl⟩
      · rw [show (256 : Int) ^ (7 : Int).toNat = 72057594037927936 from by decide]
        clear hx' HX
        by_cases h : 72057594037927936 ≤ v
        · have h2 : (v / 72057594037927936 != 0) = true := by simp; omega
          rw [if_pos h]
          go_enter Tryz.func124, Tryz.ntmps124
          go_wp2_with (go_at_call 128; refine (widthFits_any _ _).mono ?_; rintro e w' ⟨rfl, rfl⟩)
          go_ret
          exact ⟨rfl, rfl⟩
        · have h2 : (v / 72057594037927936 != 0) = false := by simp; omega
          rw [if_neg h]
          go_enter Tryz.func124, Tryz.ntmps124
          go_wp2_with (go_at_call 128; refine (widthFits_any _ _).mono ?_; rintro e w' ⟨rfl, rfl⟩)
          go_ret
          exact ⟨rfl, rfl⟩
      · rw [show (256 : Int) ^ (8 : Int).toNat = 18446744073709551616 from by decide]
        clear hx' HX
        have h2 : (v / 18446744073709551616 != 0) = false := by simp; omega
        rw [if_neg (by omega)]
        go_enter Tryz.func124, Tryz.ntmps124
        go_wp2_with (go_at_call 128; refine (widthFits_any _ _).mono ?_; rintro e w' ⟨rfl, rfl⟩)
        go_ret
        exact ⟨rfl, rfl⟩
  · have hx2 : wfB x = false := by simpa using hx
    have e : chk x v = 10 := by simp [chk, hx2]
    rw [e]
    clear e hx
    go_enter Tryz.func124, Tryz.ntmps124
    go_wp2_with (go_at_call 128; refine (widthFits_any _ _).mono ?_; rintro e w' ⟨rfl, rfl⟩)
    go_ret
    exact ⟨rfl, rfl⟩

end Go.Proofs.YthkkdmblkalknaaGreatDoor
