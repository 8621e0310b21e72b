import Derived.Test.YtbllaacbeagljaaGreatDoorSbd
import Derived.Deep.RegionHeld3
/-
  The law's own words: number, reckoned (all but the product).
-/
namespace Go.Proofs.YtbllaacbeagljaaGreatDoor
open Go.RowKit Go.Maps

set_option maxRecDepth 100000 in
set_option maxHeartbeats 2000000 in
theorem number_law (k : Int) (w : World) : Calls Tryz.prog 9 #[.int .i64 k] w fun e w' => e = .returned (.agg (ncs 20 ⟨#[]⟩ k 0 none 0 0)) ∧ w' = w.alloc (.cells (ncs 20 ⟨#[]⟩ k 0 none 0 0) 25) := by
  go_enter Tryz.func9, Tryz.ntmps9
  go_wp2_with fail
  have k1 : Cs (w.alloc (.cells (ncs 20 ⟨#[]⟩ k 0 none 0 0) 25)) w.heap.size 25 (ncs 20 ⟨#[]⟩ k 0 none 0 0) := Cs.new w 25 _
  exact bodyPost_ret (results_cell_row rfl _ _ w.heap.size 25 _ (0, 0) _ rfl k1 Tryz.underlying25 rfl (by kernel_rfl)) rfl ⟨rfl, rfl⟩

/-- what two numbers come to -/
def lwR (k at_ a b : Int) : Rs := chkR at_ (if k ≤ 26 then ofZ k at_ a b else ⟨if k = 27 then min a b else max a b, 0, 0⟩)
def lwV (x : Rs) : Value := .tuple #[.int .i64 x.v, .int .i64 x.e]
theorem lwV_at (k p q a b : Int) : lwV (lwR k p a b) = lwV (lwR k q a b) := by
  unfold lwR chkR ofZ lwV
  repeat' split
  all_goals first | rfl | (simp_all; done) | skip
set_option maxRecDepth 100000 in
set_option maxHeartbeats 4000000 in
theorem reckoned_but (k at_ a b : Int) (w : World) (ha : 0 ≤ a) (hb : 0 ≤ b) (hm : a ≤ 1099511627776) (hb' : b ≤ 1099511627776) (hk : 22 ≤ k) (hk' : k ≤ 28) (h24 : k ≠ 24) : Calls Tryz.prog 11 #[.int .i64 k, .int .i64 a, .int .i64 b] w fun e w' => e = .returned (lwV (lwR k at_ a b)) ∧ w' = w := by
  obtain ⟨PO, hPO⟩ : ∃ PO : Ending → World → Prop, PO = fun e w' => e = .returned (lwV (lwR k at_ a b)) ∧ w' = w := ⟨_, rfl⟩
  rw [← hPO]
  have HPO := hid hPO
  clear hPO
  have hk7 : k = 22 ∨ k = 23 ∨ k = 25 ∨ k = 26 ∨ k = 27 ∨ k = 28 := by omega
  clear hk hk' h24
  rcases hk7 with rfl | rfl | rfl | rfl | rfl | rfl
  · by_cases q : 1099511627776 < a + b
    · have HZ : Hid (lwR 22 at_ a b = ⟨0, at_, 203⟩) := hid (by simp [lwR, ofZ, chkR]; omega)
      go_enter Tryz.func11, Tryz.ntmps11
      go_wp2_with fail
      exact poOf HPO.out ⟨by rw [HZ.out]; rfl, rfl⟩
    · have HZ : Hid (lwR 22 at_ a b = ⟨a + b, 0, 0⟩) := hid (by simp [lwR, ofZ, chkR]; omega)
      go_enter Tryz.func11, Tryz.ntmps11
      go_wp2_with fail
      exact poOf HPO.out ⟨by rw [HZ.out]; rfl, rfl⟩
  · by_cases q : a - b < 0
    · have HZ : Hid (lwR 23 at_ a b = ⟨0, at_, 203⟩) := hid (by simp [lwR, ofZ, chkR]; omega)
      go_enter Tryz.func11, Tryz.ntmps11
      go_wp2_with fail
      exact poOf HPO.out ⟨by rw [HZ.out]; rfl, rfl⟩
    · have HZ : Hid (lwR 23 at_ a b = ⟨a - b, 0, 0⟩) := hid (by simp [lwR, ofZ, chkR]; omega)
      go_enter Tryz.func11, Tryz.ntmps11
      go_wp2_with fail
      exact poOf HPO.out ⟨by rw [HZ.out]; rfl, rfl⟩
  · by_cases q : b = 0
    · have HZ : Hid (lwR 25 at_ a b = ⟨0, at_, 204⟩) := hid (by subst q; rfl)
      subst q
      go_enter Tryz.func11, Tryz.ntmps11
      go_wp2_with fail
      exact poOf HPO.out ⟨by rw [HZ.out]; rfl, rfl⟩
    · have d0 : 0 ≤ a / b := Int.ediv_nonneg ha hb
      have d1 : a / b ≤ a := Int.ediv_le_self b ha
      have HZ : Hid (lwR 25 at_ a b = ⟨a / b, 0, 0⟩) := hid (by simp [lwR, ofZ, chkR, q]; omega)
      have q' : (b == 0) = false := by simpa using q
      have e1 : a.tdiv b = a / b := Int.tdiv_eq_ediv_of_nonneg ha
      go_enter Tryz.func11, Tryz.ntmps11
      go_wp2_with fail
      exact poOf HPO.out ⟨by rw [HZ.out]; rfl, rfl⟩
  · by_cases q : b = 0
    · have HZ : Hid (lwR 26 at_ a b = ⟨0, at_, 204⟩) := hid (by subst q; rfl)
      subst q
      go_enter Tryz.func11, Tryz.ntmps11
      go_wp2_with fail
      exact poOf HPO.out ⟨by rw [HZ.out]; rfl, rfl⟩
    · have d0 : 0 ≤ a / b := Int.ediv_nonneg ha hb
      have d1 : a / b ≤ a := Int.ediv_le_self b ha
      have d2 : a / b * b ≤ a := Int.ediv_mul_le a q
      have d3 : 0 ≤ a / b * b := Int.mul_nonneg d0 hb
      have d4 : a % b = a - a / b * b := by rw [Int.emod_def, Int.mul_comm]
      have HZ : Hid (lwR 26 at_ a b = ⟨a - a / b * b, 0, 0⟩) := hid (by simp [lwR, ofZ, chkR, q, d4]; omega)
      have q' : (b == 0) = false := by simpa using q
      have e1 : a.tdiv b = a / b := Int.tdiv_eq_ediv_of_nonneg ha
      have w1 : IntKind.i64.wrap (a / b * b) = a / b * b := by rw [IntKind.wrap_i64]; omega
      clear d4
      go_enter Tryz.func11, Tryz.ntmps11
      go_wp2_with fail
      exact poOf HPO.out ⟨by rw [HZ.out]; rfl, rfl⟩
  · by_cases q : b < a
    · have HZ : Hid (lwR 27 at_ a b = ⟨b, 0, 0⟩) := hid (by
        have e : min a b = b := by omega
        show chkR at_ ⟨min a b, 0, 0⟩ = _
        rw [e]; unfold chkR
        rw [if_neg (by simp), if_neg (by simp only; omega)])
      go_enter Tryz.func11, Tryz.ntmps11
      go_wp2_with fail
      exact poOf HPO.out ⟨by rw [HZ.out]; rfl, rfl⟩
    · have HZ : Hid (lwR 27 at_ a b = ⟨a, 0, 0⟩) := hid (by
        have e : min a b = a := by omega
        show chkR at_ ⟨min a b, 0, 0⟩ = _
        rw [e]; unfold chkR
        rw [if_neg (by simp), if_neg (by simp only; omega)])
      go_enter Tryz.func11, Tryz.ntmps11
      go_wp2_with fail
      exact poOf HPO.out ⟨by rw [HZ.out]; rfl, rfl⟩
  · by_cases q : b > a
    · have HZ : Hid (lwR 28 at_ a b = ⟨b, 0, 0⟩) := hid (by
        have e : max a b = b := by omega
        show chkR at_ ⟨max a b, 0, 0⟩ = _
        rw [e]; unfold chkR
        rw [if_neg (by simp), if_neg (by simp only; omega)])
      go_enter Tryz.func11, Tryz.ntmps11
      go_wp2_with fail
      exact poOf HPO.out ⟨by rw [HZ.out]; rfl, rfl⟩
    · have HZ : Hid (lwR 28 at_ a b = ⟨a, 0, 0⟩) := hid (by
        have e : max a b = a := by omega
        show chkR at_ ⟨max a b, 0, 0⟩ = _
        rw [e]; unfold chkR
        rw [if_neg (by simp), if_neg (by simp only; omega)])
      go_enter Tryz.func11, Tryz.ntmps11
      go_wp2_with fail
      exact poOf HPO.out ⟨by rw [HZ.out]; rfl, rfl⟩

end Go.Proofs.YtbllaacbeagljaaGreatDoor
/-
  The law's own words: reckoned, of a product.
-/
namespace Go.Proofs.YtbllaacbeagljaaGreatDoor
open Go.RowKit Go.Maps

theorem and1 (n : Int) (h : 0 ≤ n) (h' : n < 9223372036854775808) : bits .and .i64 n 1 = n % 2 := by
  have h127 : (BitVec.ofInt 64 1).toNat = 2 ^ 1 - 1 := by decide
  have key : (BitVec.ofInt 64 n &&& BitVec.ofInt 64 1).toNat = (n % ((2 ^ 64 : Nat) : Int)).toNat % 2 ^ 1 := by
    rw [BitVec.toNat_and, BitVec.toNat_ofInt, h127, Nat.and_two_pow_sub_one_eq_mod]
  show IntKind.i64.wrap ((BitVec.ofInt 64 n &&& BitVec.ofInt 64 1).toNat : Nat) = n % 2
  rw [key, IntKind.wrap_i64]
  omega
theorem prZ_nat (a b : Nat) (at_ : Int) : lwR 24 at_ a b = if 1099511627776 < a * b then ⟨0, at_, 203⟩ else ⟨((a * b : Nat) : Int), 0, 0⟩ := by
  have e : lwR 24 at_ a b = chkR at_ ⟨prZ a b, 0, 0⟩ := rfl
  rw [e]
  unfold prZ mxN
  have hab : (0 : Int) ≤ ((a * b : Nat) : Int) := Int.natCast_nonneg _
  have hiff : ((0 : Int) < a ∧ (1099511627776 : Int) / a < b) ↔ 1099511627776 < a * b := by
    constructor
    · rintro ⟨h1, h2⟩
      have h2' : (1099511627776 / a : Nat) < b := by
        have : ((1099511627776 / a : Nat) : Int) < (b : Int) := by rw [Int.natCast_ediv]; exact h2
        omega
      have := (Nat.div_lt_iff_lt_mul (by omega : 0 < a)).mp h2'
      rw [Nat.mul_comm]; exact this
    · intro h
      have h0 : 0 < a := by
        rcases Nat.eq_zero_or_pos a with rfl | h0
        · simp at h
        · exact h0
      refine ⟨by omega, ?_⟩
      have : (1099511627776 / a : Nat) < b := (Nat.div_lt_iff_lt_mul h0).mpr (by rw [Nat.mul_comm]; exact h)
      have h3 : ((1099511627776 / a : Nat) : Int) < (b : Int) := by omega
      rw [Int.natCast_ediv] at h3
      exact h3
  by_cases h : 1099511627776 < a * b
  · rw [if_pos (hiff.mpr h), if_pos h]
    rfl
  · rw [if_neg (fun q => h (hiff.mp q)), if_neg h, ← Int.natCast_mul]
    unfold chkR
    rw [if_neg (by simp), if_neg (by simp only; omega)]
theorem pow_41 (j : Nat) (h : j < 41) : 1 ≤ 2 ^ j ∧ 2 ^ j ≤ 1099511627776 := ⟨Nat.one_le_two_pow, Nat.pow_le_pow_right (n := 2) (by omega) (by omega : j ≤ 40)⟩
theorem mod_step (b j : Nat) : b % 2 ^ (j + 1) = b % 2 ^ j + 2 ^ j * (b / 2 ^ j % 2) := by rw [Nat.pow_succ, Nat.mod_mul]
set_option maxRecDepth 100000 in
set_option maxHeartbeats 4000000 in
theorem reckoned_mul (at_ : Int) (a b : Nat) (w : World) (ha : a ≤ 1099511627776) (hb : b ≤ 1099511627776) : Calls Tryz.prog 11 #[.int .i64 24, .int .i64 (a : Int), .int .i64 (b : Int)] w fun e w' => e = .returned (lwV (lwR 24 at_ a b)) ∧ w' = w := by
  obtain ⟨PO, hPO⟩ : ∃ PO : Ending → World → Prop, PO = fun e w' => e = .returned (lwV (lwR 24 at_ a b)) ∧ w' = w := ⟨_, rfl⟩
  rw [← hPO]
  have HPO := hid hPO
  clear hPO
  have HZ := hid (prZ_nat a b at_)
  have HA := hid ha
  have HB := hid hb
  clear ha hb
  go_enter Tryz.func11, Tryz.ntmps11
  go_wp2_with fail
  go_loop [8, 9] (fun v i => ∃ j : Nat, j ≤ 41 ∧ i = .int .i64 (j : Int) ∧ v = .int .i64 ((a * (b % 2 ^ j) : Nat) : Int) ∧ a * (b % 2 ^ j) ≤ j * 1099511627776) (fun _ i => 41 - (intOf i).toNat)
  case atStart => exact ⟨0, by omega, rfl, by simp [Nat.mod_one], by simp [Nat.mod_one]⟩
  case round =>
    obtain ⟨j, hj, rfl, rfl, hv⟩ := hrel
    by_cases q : j < 41
    · have q' : (j : Int) < 41 := by omega
      obtain ⟨p1, p2⟩ := pow_41 j q
      have hst := mod_step b j
      have hb1 : bits .and .i64 ((b : Int) / 2 ^ j) 1 = ((b / 2 ^ j % 2 : Nat) : Int) := by
        have e : ((b : Int) / 2 ^ j) = ((b / 2 ^ j : Nat) : Int) := by rw [Int.natCast_ediv, Int.natCast_pow]; rfl
        have h2 : b / 2 ^ j ≤ b := Nat.div_le_self _ _
        have h4 := HB.out
        rw [e]
        generalize b / 2 ^ j = y at *
        rw [and1 (y : Int) (by omega) (by omega)]
        omega
      have hs1 : (1099511627776 : Int) / 2 ^ j = ((1099511627776 / 2 ^ j : Nat) : Int) := by rw [Int.natCast_ediv, Int.natCast_pow]; rfl
      have hdv : 1099511627776 / 2 ^ j < a ↔ 1099511627776 < a * 2 ^ j := Nat.div_lt_iff_lt_mul p1
      have hsl : (a : Int) * 2 ^ j = ((a * 2 ^ j : Nat) : Int) := by rw [Int.natCast_mul, Int.natCast_pow]; rfl
      have hbg : b / 2 ^ j % 2 = 1 → 2 ^ j ≤ b := fun h => by
        rcases Nat.lt_or_ge b (2 ^ j) with h1 | h1
        · rw [Nat.div_eq_of_lt h1] at h; omega
        · exact h1
      rcases Nat.mod_two_eq_zero_or_one (b / 2 ^ j) with z | z
      · rw [z] at hst hb1
        have hb2 : (bits .and .i64 ((b : Int) / 2 ^ j) 1 == 1) = false := by rw [hb1]; rfl
        have HST := hid hst
        have HV := hid hv
        clear hst hb1 hdv hsl hbg hs1 hv z p1 p2
        obtain ⟨y, hy⟩ : ∃ y : Nat, y = a * (b % 2 ^ j) := ⟨_, rfl⟩
        have HST' : Hid (a * (b % 2 ^ (j + 1)) = y) := hid (by rw [hy, HST.out]; simp)
        have HV' : Hid (y ≤ j * 1099511627776) := hid (by rw [hy]; exact HV.out)
        rw [← hy] at *
        clear HST HV hy
        go_wp2_with fail
        refine ⟨⟨j + 1, by omega, by rw [Int.natCast_add]; rfl, by rw [HST'.out], ?_⟩, by simp [intOf]; omega⟩
        rw [HST'.out]
        exact Nat.le_trans HV'.out (Nat.mul_le_mul_right _ (Nat.le_succ _))
      · rw [z] at hst hb1
        have hb2 : (bits .and .i64 ((b : Int) / 2 ^ j) 1 == 1) = true := by rw [hb1]; rfl
        by_cases big : 1099511627776 < a * 2 ^ j
        · have hg : (a : Int) > (1099511627776 : Int) / 2 ^ j := by rw [hs1]; have := hdv.mpr big; omega
          have hge : 1099511627776 < a * b := Nat.lt_of_lt_of_le big (Nat.mul_le_mul_left _ (hbg z))
          have HZ' := hid (HZ.out.trans (if_pos hge))
          clear hst hb1 hdv hsl hbg hs1 hv z p1 p2 hge
          go_wp2_with fail
          exact poOf HPO.out ⟨by rw [HZ'.out]; rfl, rfl⟩
        · have hg : ¬ (a : Int) > (1099511627776 : Int) / 2 ^ j := by
            rw [hs1]
            intro h
            exact big (hdv.mp (by omega))
          have hX : a * (b % 2 ^ (j + 1)) = a * (b % 2 ^ j) + a * 2 ^ j := by rw [hst, Nat.mul_one, Nat.mul_add]
          have HX := hid hX
          have hw1 : IntKind.i64.wrap ((a : Int) * 2 ^ j) = ((a * 2 ^ j : Nat) : Int) := by rw [hsl, IntKind.wrap_i64]; omega
          clear hst hb1 hdv hbg hs1 z p1 p2 hX
          generalize a * (b % 2 ^ j) = x at *
          generalize a * 2 ^ j = y at *
          have hx4 : x ≤ 45079976738816 := Nat.le_trans hv (Nat.le_trans (Nat.mul_le_mul_right _ hj) (by decide))
          have hxy : (x : Int) + (y : Int) ≤ 46179488366592 := by omega
          have HV := hid hv
          have HY := hid big
          clear hv
          go_wp2_with fail
          refine ⟨⟨j + 1, by omega, by rw [Int.natCast_add]; rfl, by rw [HX.out]; simp, ?_⟩, by simp [intOf]; omega⟩
          rw [HX.out, Nat.succ_mul]
          exact Nat.add_le_add HV.out (Nat.le_of_not_lt HY.out)
    · obtain rfl : j = 41 := by omega
      have hmod : b % 2 ^ 41 = b := Nat.mod_eq_of_lt (by have := HB.out; omega)
      rw [hmod] at *
      have q' : ¬ ((41 : Nat) : Int) < 41 := by omega
      have h0 : (0 : Int) ≤ ((a * b : Nat) : Int) := Int.natCast_nonneg _
      have HZ' := HZ
      generalize hx : a * b = x at *
      by_cases big : 1099511627776 < x
      · have big' : (x : Int) > 1099511627776 := by omega
        have HZ2 := hid (HZ.out.trans (if_pos big))
        clear hmod hv
        go_wp2_with fail
        exact poOf HPO.out ⟨by rw [HZ2.out]; rfl, rfl⟩
      · have big' : ¬ (x : Int) > 1099511627776 := by omega
        have HZ2 := hid (HZ.out.trans (if_neg big))
        clear hmod hv
        go_wp2_with fail
        exact poOf HPO.out ⟨by rw [HZ2.out]; rfl, rfl⟩

end Go.Proofs.YtbllaacbeagljaaGreatDoor
/-
  The trees of the law's numbers: they may be, and what they come to.
-/
namespace Go.Proofs.YtbllaacbeagljaaGreatDoor
open Go.RowKit Go.Maps

def numT (a : Int) : Nd := ⟨20, [], a, 0, []⟩
def inT (k a b : Int) : Nd := ⟨k, [], 0, 3, [numT a, numT b]⟩
def outT (m k a b c : Int) : Nd := ⟨m, [], 0, 2, [inT k a b, numT c]⟩
/-- a number as the law draws it -/
def NB (a : Int) : Prop := 0 ≤ a ∧ a ≤ 1099511627776
def KB (k : Int) : Prop := 22 ≤ k ∧ k ≤ 28

theorem mbN_ok {f : Nat} {r : Int} {wi : Bool} {t : Nd} (h1 : oneB f r wi t = true) (h2 : mbAll (fun i s => mbN f (rolAt (kdP wi t.k) i) (wi || t.k == 12) s) 0 t.kids = (true, false)) : mbN (f + 1) r wi t = (true, false) := by
  unfold mbN
  rw [if_pos h1]
  exact h2
theorem mbAll_nil {g : Nat → Nd → Bool × Bool} {i : Nat} : mbAll g i [] = (true, false) := rfl
theorem mbAll_cons {g : Nat → Nd → Bool × Bool} {i : Nat} {t : Nd} {r : List Nd} (h1 : g i t = (true, false)) (h2 : mbAll g (i + 1) r = (true, false)) : mbAll g i (t :: r) = (true, false) := by
  unfold mbAll
  rw [h1, h2]
  rfl
theorem numB_ok {a : Int} (h : NB a) : numB 20 a = true := by
  unfold numB
  rw [if_neg (by decide), if_pos rfl]
  simp [h.1, h.2]
theorem one_num {f : Nat} {r : Int} {wi : Bool} {a : Int} (h : NB a) (hr : (takesB r 20 [] && textB 20 [] && true && cntB (kdP wi 20) 0 && (f == 0 || partsB [])) = true) : oneB f r wi (numT a) = true := by
  unfold oneB
  show (takesB r 20 [] && textB 20 [] && numB 20 a && cntB (kdP wi 20) 0 && (f == 0 || partsB [])) = true
  rw [numB_ok h]
  exact hr
theorem KB.seven {k : Int} (h : KB k) : k = 22 ∨ k = 23 ∨ k = 24 ∨ k = 25 ∨ k = 26 ∨ k = 27 ∨ k = 28 := by
  obtain ⟨h1, h2⟩ := h
  omega
set_option maxRecDepth 100000 in
theorem val_in {k a b : Int} (hk : KB k) (ha : NB a) (hb : NB b) : valZ (planT (inT k a b)) = 0 := by
  have h : mbN 64 1 false (planT (inT k a b)) = (true, false) := by
    rcases hk.seven with rfl | rfl | rfl | rfl | rfl | rfl | rfl
    all_goals
      refine mbN_ok (f := 63) (by kernel_rfl) (mbAll_cons ?_ mbAll_nil)
      refine mbN_ok (f := 62) (by kernel_rfl) (mbAll_cons ?_ mbAll_nil)
      refine mbN_ok (f := 61) (by kernel_rfl) (mbAll_cons ?_ (mbAll_cons ?_ mbAll_nil))
      · exact mbN_ok (f := 60) (one_num ha (by kernel_rfl)) mbAll_nil
      · exact mbN_ok (f := 60) (one_num hb (by kernel_rfl)) mbAll_nil
  unfold valZ
  rw [h]
  rfl
set_option maxRecDepth 100000 in
theorem val_out {m k a b c : Int} (hm : KB m) (hk : KB k) (ha : NB a) (hb : NB b) (hc : NB c) : valZ (planT (outT m k a b c)) = 0 := by
  have h : mbN 64 1 false (planT (outT m k a b c)) = (true, false) := by
    rcases hm.seven with rfl | rfl | rfl | rfl | rfl | rfl | rfl <;> rcases hk.seven with rfl | rfl | rfl | rfl | rfl | rfl | rfl
    all_goals
      refine mbN_ok (f := 63) (by kernel_rfl) (mbAll_cons ?_ mbAll_nil)
      refine mbN_ok (f := 62) (by kernel_rfl) (mbAll_cons ?_ mbAll_nil)
      refine mbN_ok (f := 61) (by kernel_rfl) (mbAll_cons ?_ (mbAll_cons ?_ mbAll_nil))
      · refine mbN_ok (f := 60) (by kernel_rfl) (mbAll_cons ?_ (mbAll_cons ?_ mbAll_nil))
        · exact mbN_ok (f := 59) (one_num ha (by kernel_rfl)) mbAll_nil
        · exact mbN_ok (f := 59) (one_num hb (by kernel_rfl)) mbAll_nil
      · exact mbN_ok (f := 60) (one_num hc (by kernel_rfl)) mbAll_nil
  unfold valZ
  rw [h]
  rfl
theorem rk_num {d : Nat} {a : Int} (h : NB a) : rkN (d + 1) (numT a) = ⟨a, 0, 0⟩ := by
  show chkR 0 ⟨a, 0, 0⟩ = _
  obtain ⟨h1, h2⟩ := h
  unfold chkR
  rw [if_neg (by simp), if_neg (by simp only; omega)]
theorem raw_two {k n at_ : Int} {x y : Rs} (hk : KB k) (hx : x.e = 0) (hy : y = ⟨y.v, 0, 0⟩) : chkR at_ (rawR k n at_ [x, y]) = lwR k at_ x.v y.v := by
  obtain ⟨k1, k2⟩ := hk
  unfold rawR lwR
  rw [if_neg (by omega)]
  have hye : y.e = 0 := by rw [hy]
  by_cases h : k ≤ 26
  · rw [if_pos h, if_pos h]
    show chkR at_ (cplR k at_ x y) = _
    unfold cplR
    rw [if_neg (by simp [hx]), if_neg (by simp [hye])]
  · rw [if_neg h, if_neg h]
    show chkR at_ (foldR (if k = 27 then min else max) x [y]) = _
    unfold foldR
    rw [if_neg (by simp [hx]), if_neg (by simp [hye])]
    unfold foldR
    by_cases h27 : k = 27
    · rw [if_pos h27, if_pos h27]
    · rw [if_neg h27, if_neg h27]
theorem raw_flt {k n at_ : Int} {x y : Rs} (hk : KB k) (hx : x.e ≠ 0) : chkR at_ (rawR k n at_ [x, y]) = x := by
  obtain ⟨k1, k2⟩ := hk
  have h : rawR k n at_ [x, y] = x := by
    unfold rawR
    rw [if_neg (by omega)]
    by_cases h : k ≤ 26
    · rw [if_pos h]
      show cplR k at_ x y = _
      unfold cplR
      rw [if_pos hx]
    · rw [if_neg h]
      show foldR (if k = 27 then min else max) x [y] = _
      unfold foldR
      rw [if_pos hx]
  rw [h]
  unfold chkR
  rw [if_pos hx]
theorem rk_in {k a b : Int} (hk : KB k) (ha : NB a) (hb : NB b) : rkN 2 (inT k a b) = lwR k 3 a b := by
  show chkR 3 (rawR k 0 3 [rkN 1 (numT a), rkN 1 (numT b)]) = _
  rw [rk_num ha, rk_num hb]
  exact raw_two hk rfl rfl
theorem rk_in' {d : Nat} {k a b : Int} (hk : KB k) (ha : NB a) (hb : NB b) : rkN (d + 2) (inT k a b) = lwR k 3 a b := by
  show chkR 3 (rawR k 0 3 [rkN (d + 1) (numT a), rkN (d + 1) (numT b)]) = _
  rw [rk_num ha, rk_num hb]
  exact raw_two hk rfl rfl
theorem rk_out_flt {m k a b c : Int} (hm : KB m) (hk : KB k) (ha : NB a) (hb : NB b) (he : (lwR k 3 a b).e ≠ 0) : rkN 3 (outT m k a b c) = lwR k 3 a b := by
  show chkR 2 (rawR m 0 2 [rkN 2 (inT k a b), rkN 2 (numT c)]) = _
  rw [rk_in hk ha hb]
  exact raw_flt hm he
theorem rk_out {m k a b c : Int} (hm : KB m) (hk : KB k) (ha : NB a) (hb : NB b) (hc : NB c) (he : (lwR k 3 a b).e = 0) : rkN 3 (outT m k a b c) = lwR m 2 (lwR k 3 a b).v c := by
  show chkR 2 (rawR m 0 2 [rkN 2 (inT k a b), rkN 2 (numT c)]) = _
  rw [rk_in hk ha hb, rk_num hc]
  exact raw_two hm he rfl
theorem ar_num (d : Nat) (a : Int) : ArK (d + 1) (numT a) := ⟨.inl rfl, fun i hi => by simp [numT] at hi⟩
theorem ar_in (d : Nat) {k : Int} (a b : Int) (hk : KB k) : ArK (d + 2) (inT k a b) := by
  obtain ⟨k1, k2⟩ := hk
  refine ⟨?_, fun i hi => ?_⟩
  · show k = 20 ∨ (22 ≤ k ∧ k ≤ 26 ∧ 2 ≤ 2) ∨ ((k = 27 ∨ k = 28) ∧ 0 < 2)
    omega
  · have : i = 0 ∨ i = 1 := by simp [inT] at hi; omega
    rcases this with rfl | rfl
    · exact ar_num d a
    · exact ar_num d b
theorem ar_out {m k : Int} (a b c : Int) (hm : KB m) (hk : KB k) : ArK 3 (outT m k a b c) := by
  obtain ⟨k1, k2⟩ := hm
  refine ⟨?_, fun i hi => ?_⟩
  · show m = 20 ∨ (22 ≤ m ∧ m ≤ 26 ∧ 2 ≤ 2) ∨ ((m = 27 ∨ m = 28) ∧ 0 < 2)
    omega
  · have : i = 0 ∨ i = 1 := by simp [outT] at hi; omega
    rcases this with rfl | rfl
    · exact ar_in 0 a b hk
    · exact ar_num 1 c
/-- what the law's words come to, and where -/
theorem lwR_ok {k at_ a b : Int} (h : (lwR k at_ a b).e = 0) : NB (lwR k at_ a b).v := chkR_ok h
theorem lwR_flt {k at_ a b : Int} (h : (lwR k at_ a b).e ≠ 0) : (lwR k at_ a b).v = 0 ∧ (lwR k at_ a b).at_ = at_ := by
  revert h
  unfold lwR chkR ofZ
  repeat' split
  all_goals simp_all
theorem reckoned_law (k at_ a b : Int) (w : World) (ha : NB a) (hb : NB b) (hk : KB k) : Calls Tryz.prog 11 #[.int .i64 k, .int .i64 a, .int .i64 b] w fun e w' => e = .returned (lwV (lwR k at_ a b)) ∧ w' = w := by
  by_cases h : k = 24
  · subst h
    obtain ⟨A, rfl⟩ := Int.eq_ofNat_of_zero_le ha.1
    obtain ⟨B, rfl⟩ := Int.eq_ofNat_of_zero_le hb.1
    have h1 := ha.2
    have h2 := hb.2
    exact reckoned_mul at_ A B w (by omega) (by omega)
  · exact reckoned_but k at_ a b w ha.1 hb.1 ha.2 hb.2 hk.1 hk.2 h

end Go.Proofs.YtbllaacbeagljaaGreatDoor
/-
  ScopeReckons.
-/
namespace Go.Proofs.YtbllaacbeagljaaGreatDoor
open Go.RowKit Go.Maps

theorem and62 (n : Int) : bits .and .i64 n 4611686018427387903 = n % 4611686018427387904 := by
  have h127 : (BitVec.ofInt 64 4611686018427387903).toNat = 2 ^ 62 - 1 := by decide
  have key : (BitVec.ofInt 64 n &&& BitVec.ofInt 64 4611686018427387903).toNat = (n % ((2 ^ 64 : Nat) : Int)).toNat % 2 ^ 62 := by
    rw [BitVec.toNat_and, BitVec.toNat_ofInt, h127, Nat.and_two_pow_sub_one_eq_mod]
  show IntKind.i64.wrap ((BitVec.ofInt 64 n &&& BitVec.ofInt 64 4611686018427387903).toNat : Nat) = n % 4611686018427387904
  rw [key, IntKind.wrap_i64]
  omega
theorem drawn7 (n : Int) : ∃ i : Nat, i < 7 ∧ (bits .and .i64 n 4611686018427387903).tmod 7 = (i : Int) := by
  rw [and62]
  have h1 : 0 ≤ n % 4611686018427387904 := by omega
  have h2 := Int.tmod_lt_of_pos (n % 4611686018427387904) (b := 7) (by omega)
  have h3 := Int.tmod_nonneg 7 h1
  exact ⟨((n % 4611686018427387904).tmod 7).toNat, by omega, by omega⟩
theorem drawnN (n : Int) : NB ((bits .and .i64 n 4611686018427387903).tmod 1099511627777) := by
  rw [and62]
  have h1 : 0 ≤ n % 4611686018427387904 := by omega
  have h2 := Int.tmod_lt_of_pos (n % 4611686018427387904) (b := 1099511627777) (by omega)
  have h3 := Int.tmod_nonneg 1099511627777 h1
  exact ⟨h3, by omega⟩
abbrev kinds7 : Array Value := #[.int .i64 22, .int .i64 23, .int .i64 24, .int .i64 25, .int .i64 26, .int .i64 27, .int .i64 28]
theorem kinds_at {w : World} {b : Nat} {t : TypeId} (h : Cs w b t kinds7) (i : Nat) (hi : i < 7) : w.cell? ⟨b, i, none⟩ = some (.int .i64 ((22 + i : Nat) : Int)) := by
  refine h.cell i _ ?_
  have : i = 0 ∨ i = 1 ∨ i = 2 ∨ i = 3 ∨ i = 4 ∨ i = 5 ∨ i = 6 := by omega
  rcases this with rfl | rfl | rfl | rfl | rfl | rfl | rfl <;> rfl

abbrev ten (k1 : Int) (s1 : ByteArray) (n1 at1 : Int) (a1 : Option Addr) (l1 c1 : Nat) (k2 : Int) (s2 : ByteArray) (n2 at2 : Int) (a2 : Option Addr) (l2 c2 : Nat) : Array Value := #[.int .i64 k1, .string s1, .int .i64 n1, .int .i64 at1, .slice a1 l1 c1, .int .i64 k2, .string s2, .int .i64 n2, .int .i64 at2, .slice a2 l2 c2]
theorem KR.two {X : Nat → Prop} {w : World} {D g : Nat} {t u : Nd} {a1 a2 : Option Addr} {l1 c1 l2 c2 : Nat} (hg : Cs w g 25 (ten t.k (strOfNums t.tx) t.n t.at_ a1 l1 c1 u.k (strOfNums u.tx) u.n u.at_ a2 l2 c2)) (hx : ¬ X g) (ht : Pl.isB t.tx ∧ t.tx.length ≤ 16777216) (hu : Pl.isB u.tx ∧ u.tx.length ≤ 16777216) (hK : KR X w D a1 l1 t.kids) (hL : KR X w D a2 l2 u.kids) : KR X w (D + 1) (some ⟨g, 0, none⟩) 2 [t, u] := by
  refine ⟨rfl, by omega, fun i hi => ?_⟩
  have : i = 0 ∨ i = 1 := by simp at hi; omega
  rcases this with rfl | rfl
  · exact ⟨g, 0, a1, l1, c1, rfl, hx, hg.lt, ⟨hg.cell 0 _ rfl, hg.cell 1 _ rfl, hg.cell 2 _ rfl, hg.cell 3 _ rfl, hg.cell 4 _ rfl⟩, ht, hK⟩
  · exact ⟨g, 0, a2, l2, c2, rfl, hx, hg.lt, ⟨hg.cell 5 _ rfl, hg.cell 6 _ rfl, hg.cell 7 _ rfl, hg.cell 8 _ rfl, hg.cell 9 _ rfl⟩, hu, hL⟩
theorem KR.none {X : Nat → Prop} {w : World} : ∀ (D : Nat), KR X w D none 0 []
  | 0 => ⟨rfl, rfl⟩
  | _ + 1 => ⟨rfl, by omega, fun i hi => by simp at hi⟩
theorem below5 (w : World) (A B C E F : Obj) : Below w.heap.size w (((((w.alloc A).alloc B).alloc C).alloc E).alloc F) := (below4 w A B C E).trans ((below1 _ F).mono (by simp; omega))
theorem okTx : Pl.isB ([] : List Int) ∧ ([] : List Int).length ≤ 16777216 := ⟨fun z hz => by simp at hz, by simp⟩

def put5 (w : World) (b : Nat) (v0 v1 v2 v3 v4 : Value) : World := ((((w.setCell ⟨b, 0, none⟩ v0).setCell ⟨b, 1, none⟩ v1).setCell ⟨b, 2, none⟩ v2).setCell ⟨b, 3, none⟩ v3).setCell ⟨b, 4, none⟩ v4
theorem put5_but (w : World) (b : Nat) (v0 v1 v2 v3 v4 : Value) : But (fun k => k = b) w (put5 w b v0 v1 v2 v3 v4) := (((((But.refl (fun k => k = b) w).setCell (p := ⟨b, 0, none⟩) rfl _).setCell (p := ⟨b, 1, none⟩) rfl _).setCell (p := ⟨b, 2, none⟩) rfl _).setCell (p := ⟨b, 3, none⟩) rfl _).setCell (p := ⟨b, 4, none⟩) rfl _
theorem put5_below {B : Nat} {u w : World} {b : Nat} {v0 v1 v2 v3 v4 : Value} (h : Below B u w) (hb : B ≤ b) : Below B u (put5 w b v0 v1 v2 v3 v4) := ((((h.setCell (p := ⟨b, 0, none⟩) hb _).setCell (p := ⟨b, 1, none⟩) hb _).setCell (p := ⟨b, 2, none⟩) hb _).setCell (p := ⟨b, 3, none⟩) hb _).setCell (p := ⟨b, 4, none⟩) hb _
theorem Cs.p5 {w : World} {b : Nat} {t : TypeId} {x0 x1 x2 x3 x4 v0 v1 v2 v3 v4 : Value} (h : Cs w b t #[x0, x1, x2, x3, x4]) : Cs (put5 w b v0 v1 v2 v3 v4) b t #[v0, v1, v2, v3, v4] := ((((h.set 0 _ rfl).set 1 _ rfl).set 2 _ rfl).set 3 _ rfl).set 4 _ rfl

abbrev vw0 : Value := .agg #[.int .i64 0, .int .i64 0, .int .i64 0, .slice none 0 0]
theorem num_in {K A B : Int} {g : Nat} {W : World} (hK : KB K) (hA : NB A) (hB : NB B) (hKI : KR (fun _ => False) W 1 (some ⟨g, 0, none⟩) 2 [numT A, numT B]) (hG : GA W) :
    Calls Tryz.prog 10 #[.agg (ncs K ⟨#[]⟩ 0 3 (some ⟨g, 0, none⟩) 2 2), vw0] W fun e w' => e = .returned (ansV (lwR K 3 A B)) ∧ Below W.heap.size W w' := by
  have h := Number_ar 2 (inT K A B) 1 (some ⟨g, 0, none⟩) 2 2 0 0 0 0 W (ar_in 0 A B hK) hKI okTx (val_in hK hA hB) hG
  rw [rk_in hK hA hB] at h
  exact h
theorem num_out {M K A B C : Int} {p : Nat} {W : World} (hM : KB M) (hK : KB K) (hA : NB A) (hB : NB B) (hC : NB C) (hKO : KR (fun _ => False) W 2 (some ⟨p, 0, none⟩) 2 [inT K A B, numT C]) (hG : GA W) :
    Calls Tryz.prog 10 #[.agg (ncs M ⟨#[]⟩ 0 2 (some ⟨p, 0, none⟩) 2 2), vw0] W fun e w' => e = .returned (ansV (rkN 3 (outT M K A B C))) ∧ Below W.heap.size W w' :=
  Number_ar 3 (outT M K A B C) 2 (some ⟨p, 0, none⟩) 2 2 0 0 0 0 W (ar_out A B C hM hK) hKO okTx (val_out hM hK hA hB hC) hG
/-- what one couple comes to -/
theorem one_of (k at_ a b : Int) : (∃ V, NB V ∧ (lwR k at_ a b).e = 0 ∧ (lwR k at_ a b).v = V ∧ ansV (lwR k at_ a b) = .tuple #[.int .i64 V, .int .i64 0, .int .i64 0] ∧ lwV (lwR k at_ a b) = .tuple #[.int .i64 V, .int .i64 0]) ∨
    ∃ E, E ≠ 0 ∧ (lwR k at_ a b).e = E ∧ ansV (lwR k at_ a b) = .tuple #[.int .i64 0, .int .i64 at_, .int .i64 E] ∧ lwV (lwR k at_ a b) = .tuple #[.int .i64 0, .int .i64 E] := by
  by_cases h : (lwR k at_ a b).e = 0
  · exact .inl ⟨_, lwR_ok h, h, rfl, if_pos h, by unfold lwV; rw [h]⟩
  · obtain ⟨h1, h2⟩ := lwR_flt h
    exact .inr ⟨_, h, rfl, by unfold ansV; rw [if_neg h, h2], by unfold lwV; rw [h1]⟩

set_option maxRecDepth 100000 in
set_option maxHeartbeats 8000000 in
theorem reckons (kind other a b c : Int) (w : World) (hG : GA w) : Calls Tryz.prog 3 #[.int .i64 kind, .int .i64 other, .int .i64 a, .int .i64 b, .int .i64 c] w fun e w' => e = .returned (.bool true) ∧ Below w.heap.size w w' := by
  obtain ⟨PO, hPO⟩ : ∃ PO : Ending → World → Prop, PO = fun e w' => e = .returned (.bool true) ∧ Below w.heap.size w w' := ⟨_, rfl⟩
  rw [← hPO]
  have HPO := hid hPO
  clear hPO
  obtain ⟨i, hi, ei⟩ := drawn7 kind
  obtain ⟨j, hj, ej⟩ := drawn7 other
  obtain ⟨A, hA⟩ : ∃ A, A = (bits .and .i64 a 4611686018427387903).tmod 1099511627777 := ⟨_, rfl⟩
  obtain ⟨B, hB⟩ : ∃ B, B = (bits .and .i64 b 4611686018427387903).tmod 1099511627777 := ⟨_, rfl⟩
  obtain ⟨C, hC⟩ : ∃ C, C = (bits .and .i64 c 4611686018427387903).tmod 1099511627777 := ⟨_, rfl⟩
  have HA : Hid (NB A) := hid (by rw [hA]; exact drawnN a)
  have HB : Hid (NB B) := hid (by rw [hB]; exact drawnN b)
  have HC : Hid (NB C) := hid (by rw [hC]; exact drawnN c)
  have eA := hA.symm
  have eB := hB.symm
  have eC := hC.symm
  have cI := kinds_at (Cs.new w 22 kinds7) i hi
  have cJ := kinds_at (Cs.new w 22 kinds7) j hj
  have HK : Hid (KB ((22 + i : Nat) : Int)) := hid ⟨by omega, by omega⟩
  have HM : Hid (KB ((22 + j : Nat) : Int)) := hid ⟨by omega, by omega⟩
  generalize ((22 + i : Nat) : Int) = K at *
  generalize ((22 + j : Nat) : Int) = M at *
  have HG := hid hG
  clear hG hA hB hC
  have hi' : (i : Int) < 7 := by omega
  have hj' : (j : Int) < 7 := by omega
  go_enter Tryz.func3, Tryz.ntmps3
  go_wp2_with (go_at_call 9; refine (number_law _ _).mono ?_; rintro e w2 ⟨rfl, rfl⟩)
  obtain ⟨U, hU⟩ : ∃ U, U = ((((w.alloc (.cells kinds7 22)).alloc (.cells (ncs 20 ⟨#[]⟩ A 0 none 0 0) 25)).alloc (.cells (ncs 20 ⟨#[]⟩ B 0 none 0 0) 25)).alloc (.cells (ten 20 ⟨#[]⟩ A 0 none 0 0 20 ⟨#[]⟩ B 0 none 0 0) 25)).alloc (.cells (ncs K ⟨#[]⟩ 0 3 (some ⟨w.heap.size + 1 + 1 + 1, 0, none⟩) 2 2) 25) := ⟨_, rfl⟩
  obtain ⟨g, hg⟩ : ∃ g, g = w.heap.size + 1 + 1 + 1 := ⟨_, rfl⟩
  have kg : Cs U g 25 (ten 20 ⟨#[]⟩ A 0 none 0 0 20 ⟨#[]⟩ B 0 none 0 0) := by
    rw [hU, hg]
    have h := Cs.next (Cs.new (((w.alloc (.cells kinds7 22)).alloc (.cells (ncs 20 ⟨#[]⟩ A 0 none 0 0) 25)).alloc (.cells (ncs 20 ⟨#[]⟩ B 0 none 0 0) 25)) 25 (ten 20 ⟨#[]⟩ A 0 none 0 0 20 ⟨#[]⟩ B 0 none 0 0)) (below1 _ (.cells (ncs K ⟨#[]⟩ 0 3 (some ⟨w.heap.size + 1 + 1 + 1, 0, none⟩) 2 2) 25))
    simpa using h
  have kn : Cs U (g + 1) 25 (ncs K ⟨#[]⟩ 0 3 (some ⟨g, 0, none⟩) 2 2) := by
    rw [hU, hg]
    have h := Cs.new ((((w.alloc (.cells kinds7 22)).alloc (.cells (ncs 20 ⟨#[]⟩ A 0 none 0 0) 25)).alloc (.cells (ncs 20 ⟨#[]⟩ B 0 none 0 0) 25)).alloc (.cells (ten 20 ⟨#[]⟩ A 0 none 0 0 20 ⟨#[]⟩ B 0 none 0 0) 25)) 25 (ncs K ⟨#[]⟩ 0 3 (some ⟨w.heap.size + 1 + 1 + 1, 0, none⟩) 2 2)
    simpa using h
  have hbU : Below w.heap.size w U := by rw [hU]; exact below5 _ _ _ _ _ _
  rw [← hg] at hU
  rw [← hg]
  rw [← hU]
  have HBU := hid hbU
  have hKI : KR (fun _ => False) U 1 (some ⟨g, 0, none⟩) 2 [numT A, numT B] := KR.two (t := numT A) (u := numT B) kg (fun h => h) okTx okTx (KR.none 0) (KR.none 0)
  have HKI := hid hKI
  have HKN := hid kn
  have HGU := hid (HG.out.next hbU)
  obtain ⟨n0, n1, n2, n3, n4⟩ := kn.five
  have hlt := kn.lt
  clear hU hg kg kn hbU hKI cI cJ ei ej eA eB eC hi hj hi' hj' HG
  obtain ⟨x0, hx0⟩ : ∃ x0, x0 = U.drew := ⟨_, rfl⟩
  have HBx0 : Hid (Below U.heap.size U x0) := hid (by rw [hx0]; exact below_drew _ _)
  refine wp_region_held_drew (S := fun w' => Below U.heap.size U w') (by kernel_rfl) (below_drew _ _) ?_
  rw [← hx0]
  intro hSS
  clear hx0 n0 n1 n2 n3 n4 hlt
  refine wpAnyH_take (i := 0) (oi := ({ dst := some 51, op := Op.move (Operand.tmp 13), type := 3, pos := _, after := _, guard := none } : Oper)) (v := ?_) rfl (by kernel_rfl) (by kernel_rfl) (by kernel_rfl) (fun _ _ _ h => h) (Or.inl ⟨by rfl, ?_⟩) hSS ?_
  rotate_left
  · intro w9 hSw
    first | (go_simp; done) | (go_simp; with_reducible rfl)
  try simp only [Act.put, List.setIfInBounds_toArray, List.set_cons_zero, List.set_cons_succ]
  refine wpAnyH_take (i := 1) (oi := ({ dst := some 52, op := Op.load 25 (Operand.tmp 14), type := 25, pos := _, after := _, guard := none } : Oper)) (v := ?_) rfl (by kernel_rfl) (by kernel_rfl) (by kernel_rfl) (fun _ _ _ h => h) (Or.inl ⟨by rfl, ?_⟩) hSS ?_
  rotate_left
  · intro w9 hSw
    obtain ⟨n0, n1, n2, n3, n4⟩ := (HKN.out.next hSw).five
    first | (go_simp; done) | (go_simp; with_reducible rfl)
  try simp only [Act.put, List.setIfInBounds_toArray, List.set_cons_zero, List.set_cons_succ]
  refine wpAnyH_take (i := 2) (oi := ({ dst := some 53, op := Op.move (Operand.tmp 4), type := 3, pos := _, after := _, guard := none } : Oper)) (v := ?_) rfl (by kernel_rfl) (by kernel_rfl) (by kernel_rfl) (fun _ _ _ h => h) (Or.inl ⟨by rfl, ?_⟩) hSS ?_
  rotate_left
  · intro w9 hSw
    first | (go_simp; done) | (go_simp; with_reducible rfl)
  try simp only [Act.put, List.setIfInBounds_toArray, List.set_cons_zero, List.set_cons_succ]
  refine wpAnyH_ready (rs := [3, 6]) (by kernel_rfl) (by simp) (AllReadyH.cons (o := ({ dst := some 54, op := Op.call { callee := Callee.value (Operand.func 9), args := #[Operand.tmp 53], argTypes := #[3] }, type := 25, pos := _, after := _, guard := none } : Oper)) rfl (fun K9 hK9 => ?_) (AllReadyH.cons (o := ({ dst := some 15, op := Op.alloc 25, type := 0, pos := _, after := _, guard := none } : Oper)) rfl (fun K9 hK9 => ?_) AllReadyH.nil))
  · clear hSS
    go_simp
    go_at_call 9
    refine Calls.mono (number_law _ _) ?_
    rintro e x3 ⟨rfl, hx3⟩
    have HBx3 : Hid (Below U.heap.size U x3) := hid (by rw [hx3]; exact HBx0.out.alloc HBx0.out.size _)
    clear hx3
    refine hK9.out _ _ HBx3.out (fun hSS => ?_)
    clear hK9 K9
    try simp only [Act.put, List.setIfInBounds_toArray, List.set_cons_zero, List.set_cons_succ]
    refine wpAnyH_ready (rs := [4, 6]) (by kernel_rfl) (by simp) (AllReadyH.cons (o := ({ dst := some 55, op := Op.buildSlice 23 2 #[(0, Operand.tmp 52), (1, Operand.tmp 54)], type := 23, pos := _, after := _, guard := none } : Oper)) rfl (fun K9 hK9 => ?_) (AllReadyH.cons (o := ({ dst := some 15, op := Op.alloc 25, type := 0, pos := _, after := _, guard := none } : Oper)) rfl (fun K9 hK9 => ?_) AllReadyH.nil))
    · clear hSS
      obtain ⟨x4, hx4⟩ : ∃ y, y = x3.alloc (.cells (ten K ⟨#[]⟩ 0 3 (some ⟨g, 0, none⟩) 2 2 20 ⟨#[]⟩ C 0 none 0 0) 25) := ⟨_, rfl⟩
      obtain ⟨p, hp⟩ : ∃ y, y = x3.heap.size := ⟨_, rfl⟩
      have HKpx4 : Hid (Cs x4 p 25 (ten K ⟨#[]⟩ 0 3 (some ⟨g, 0, none⟩) 2 2 20 ⟨#[]⟩ C 0 none 0 0)) := hid (by rw [hx4, hp]; exact Cs.new _ _ _)
      have HBx4 : Hid (Below U.heap.size U x4) := hid (by rw [hx4]; exact HBx3.out.alloc HBx3.out.size _)
      have HGp : Hid (U.heap.size ≤ p) := hid (by rw [hp]; exact HBx3.out.size)
      have HY := hid hx4
      have HO := hid hp
      clear hx4 hp
      go_simp
      rw [← HY.out, ← HO.out]
      clear HY HO
      refine hK9.out _ _ HBx4.out (fun hSS => ?_)
      clear hK9 K9
      try simp only [Act.put, List.setIfInBounds_toArray, List.set_cons_zero, List.set_cons_succ]
      refine wpAnyH_take (i := 5) (oi := ({ dst := some 56, op := Op.build 25 #[(0, Operand.tmp 51), (3, Operand.const (Value.int IntKind.i64 2)), (4, Operand.tmp 55)], type := 25, pos := _, after := _, guard := none } : Oper)) (v := ?_) rfl (by kernel_rfl) (by kernel_rfl) (by kernel_rfl) (fun _ _ _ h => h) (Or.inl ⟨by rfl, ?_⟩) hSS ?_
      rotate_left
      · intro w9 hSw
        first | (go_simp; done) | (go_simp; with_reducible rfl)
      try simp only [Act.put, List.setIfInBounds_toArray, List.set_cons_zero, List.set_cons_succ]
      refine wpAnyH_ready (rs := [6]) (by kernel_rfl) (by simp) (AllReadyH.cons (o := ({ dst := some 15, op := Op.alloc 25, type := 0, pos := _, after := _, guard := none } : Oper)) rfl (fun K9 hK9 => ?_) AllReadyH.nil)
      obtain ⟨x6, hx6⟩ : ∃ y, y = x4.alloc (.cells (ncs 0 ⟨#[]⟩ 0 0 none 0 0) 25) := ⟨_, rfl⟩
      obtain ⟨o, ho⟩ : ∃ y, y = x4.heap.size := ⟨_, rfl⟩
      have HKox6 : Hid (Cs x6 o 25 (ncs 0 ⟨#[]⟩ 0 0 none 0 0)) := hid (by rw [hx6, ho]; exact Cs.new _ _ _)
      have HBx6 : Hid (Below U.heap.size U x6) := hid (by rw [hx6]; exact HBx4.out.alloc HBx4.out.size _)
      have HGo : Hid (U.heap.size ≤ o) := hid (by rw [ho]; exact HBx4.out.size)
      have HKpx6 : Hid (Cs x6 p 25 (ten K ⟨#[]⟩ 0 3 (some ⟨g, 0, none⟩) 2 2 20 ⟨#[]⟩ C 0 none 0 0)) := hid (HKpx4.out.next (by rw [hx6]; exact below1 _ _))
      have HNo : Hid (¬ p = o) := hid (by rw [ho]; exact Nat.ne_of_lt HKpx4.out.lt)
      have HY := hid hx6
      have HO := hid ho
      clear hx6 ho
      go_simp
      rw [← HY.out, ← HO.out]
      clear HY HO
      refine hK9.out _ _ HBx6.out (fun hSS => ?_)
      clear hK9 K9
      try simp only [Act.put, List.setIfInBounds_toArray, List.set_cons_zero, List.set_cons_succ]
      refine wpAnyH_ready (rs := [7]) (by kernel_rfl) (by simp) (AllReadyH.cons (o := ({ dst := none, op := Op.store 25 (Operand.tmp 15) (Operand.tmp 56), type := 0, pos := _, after := _, guard := none } : Oper)) rfl (fun K9 hK9 => ?_) AllReadyH.nil)
      obtain ⟨q0, q1, q2, q3, q4⟩ := HKox6.out.five
      have f0 := HKox6.out.fz 0
      have f1 := HKox6.out.fz 1
      have f2 := HKox6.out.fz 2
      have f3 := HKox6.out.fz 3
      have f4 := HKox6.out.fz 4
      obtain ⟨W, hW⟩ : ∃ W, W = put5 x6 o (.int .i64 M) (.string ⟨#[]⟩) (.int .i64 0) (.int .i64 2) (.slice (some ⟨p, 0, none⟩) 2 2) := ⟨_, rfl⟩
      have HBW : Hid (Below U.heap.size U W) := hid (by rw [hW]; exact put5_below HBx6.out HGo.out)
      have HOW : Hid (Cs W o 25 (ncs M ⟨#[]⟩ 0 2 (some ⟨p, 0, none⟩) 2 2)) := hid (by rw [hW]; exact HKox6.out.p5)
      have HPW : Hid (Cs W p 25 (ten K ⟨#[]⟩ 0 3 (some ⟨g, 0, none⟩) 2 2 20 ⟨#[]⟩ C 0 none 0 0)) := hid (by rw [hW]; exact HKpx6.out.but (put5_but _ _ _ _ _ _ _) HNo.out)
      have HW := hid hW
      clear hW
      go_simp
      (try unfold put5 at HW)
      rw [← HW.out]
      clear HW q0 q1 q2 q3 q4 f0 f1 f2 f3 f4
      refine hK9.out _ _ HBW.out (fun hSS => ?_)
      clear hK9 K9
      try simp only [Act.put, List.setIfInBounds_toArray, List.set_cons_zero, List.set_cons_succ]
      refine wpAnyH_done (by kernel_rfl) ?_ _
      have H10 := hid (num_in HK.out HA.out HB.out (HKI.out.next HBW.out) (HGU.out.next HBW.out))
      have HKO : Hid (KR (fun _ => False) W 2 (some ⟨p, 0, none⟩) 2 [inT K A B, numT C]) := hid (KR.two (t := inT K A B) (u := numT C) HPW.out (fun h => h) okTx okTx (HKI.out.next HBW.out) (KR.none 1))
      have H20 := hid (fun (u : World) (hu : Below W.heap.size W u) => num_out HM.out HK.out HA.out HB.out HC.out (HKO.out.next hu) ((HGU.out.next HBW.out).next hu))
      have H11 := hid (fun (u : World) => reckoned_law K 3 A B u HA.out HB.out HK.out)
      obtain ⟨n0, n1, n2, n3, n4⟩ := (HKN.out.next HBW.out).five
      have hlt := (HKN.out.next HBW.out).lt
      have HBw := hid (HBU.out.trans (HBW.out.mono HBU.out.size))
      clear hSS HKI HKN HGU HKO HPW
      rcases one_of K 3 A B with ⟨V, hV, he, hv, z1, z2⟩ | ⟨E, hE, he, z1, z2⟩
      · have ho := rk_out HM.out HK.out HA.out HB.out HC.out he
        rw [hv] at ho
        rw [z1] at H10
        simp only [z2] at H11
        simp only [ho] at H20
        have H21 := hid (fun (u : World) => reckoned_law M 2 V C u hV HC.out HM.out)
        clear he hv z1 z2 ho hV
        rcases one_of M 2 V C with ⟨V2, hV2, he2, hv2, y1, y2⟩ | ⟨E2, hE2, he2, y1, y2⟩
        · simp only [y1] at H20
          simp only [y2] at H21
          clear he2 hv2 y1 y2 hV2
          go_wp2_with fail
          refine Calls.mono H10.out ?_
          rintro e w2 ⟨rfl, hb2⟩
          have HB2 := hid hb2
          obtain ⟨m0, m1, m2, m3, m4⟩ := (HOW.out.next hb2).five
          have hlo := (HOW.out.next hb2).lt
          clear hb2 n0 n1 n2 n3 n4 hlt H10
          go_wp2_with fail
          refine Calls.mono (H11.out _) ?_
          rintro e w3 ⟨rfl, rfl⟩
          clear H11
          go_wp2_with fail
          refine Calls.mono (H20.out _ HB2.out) ?_
          rintro e w4 ⟨rfl, hb4⟩
          have HB4 := hid hb4
          clear hb4 H20 m0 m1 m2 m3 m4 hlo
          go_wp2_with fail
          refine Calls.mono (H21.out _) ?_
          rintro e w5 ⟨rfl, rfl⟩
          clear H21
          go_wp2_with fail
          exact poOf HPO.out ⟨rfl, HBw.out.trans ((HB2.out.trans (HB4.out.mono HB2.out.size)).mono HBw.out.size)⟩
        · simp only [y1] at H20
          simp only [y2] at H21
          clear he2 y1 y2
          have q2 : (E2 == 0) = false := by simpa using hE2
          go_wp2_with fail
          refine Calls.mono H10.out ?_
          rintro e w2 ⟨rfl, hb2⟩
          have HB2 := hid hb2
          obtain ⟨m0, m1, m2, m3, m4⟩ := (HOW.out.next hb2).five
          have hlo := (HOW.out.next hb2).lt
          clear hb2 n0 n1 n2 n3 n4 hlt H10
          go_wp2_with fail
          refine Calls.mono (H11.out _) ?_
          rintro e w3 ⟨rfl, rfl⟩
          clear H11
          go_wp2_with fail
          refine Calls.mono (H20.out _ HB2.out) ?_
          rintro e w4 ⟨rfl, hb4⟩
          have HB4 := hid hb4
          clear hb4 H20 m0 m1 m2 m3 m4 hlo
          go_wp2_with fail
          refine Calls.mono (H21.out _) ?_
          rintro e w5 ⟨rfl, rfl⟩
          clear H21
          go_wp2_with fail
          exact poOf HPO.out ⟨by show Ending.returned (Value.bool (E2 != 0)) = _; simp [hE2], HBw.out.trans ((HB2.out.trans (HB4.out.mono HB2.out.size)).mono HBw.out.size)⟩
      · have ho := rk_out_flt (c := C) HM.out HK.out HA.out HB.out (by rw [he]; exact hE)
        rw [z1] at H10
        simp only [z2] at H11
        simp only [ho, z1] at H20
        have q1 : (E == 0) = false := by simpa using hE
        clear he z1 z2 ho
        go_wp2_with fail
        refine Calls.mono H10.out ?_
        rintro e w2 ⟨rfl, hb2⟩
        have HB2 := hid hb2
        obtain ⟨m0, m1, m2, m3, m4⟩ := (HOW.out.next hb2).five
        have hlo := (HOW.out.next hb2).lt
        clear hb2 n0 n1 n2 n3 n4 hlt H10
        go_wp2_with fail
        refine Calls.mono (H11.out _) ?_
        rintro e w3 ⟨rfl, rfl⟩
        clear H11
        go_wp2_with fail
        refine Calls.mono (H20.out _ HB2.out) ?_
        rintro e w4 ⟨rfl, hb4⟩
        have HB4 := hid hb4
        clear hb4 H20 m0 m1 m2 m3 m4 hlo
        go_wp2_with fail
        exact poOf HPO.out ⟨rfl, HBw.out.trans ((HB2.out.trans (HB4.out.mono HB2.out.size)).mono HBw.out.size)⟩
    · clear hSS
      obtain ⟨x6, hx6⟩ : ∃ y, y = x3.alloc (.cells (ncs 0 ⟨#[]⟩ 0 0 none 0 0) 25) := ⟨_, rfl⟩
      obtain ⟨o, ho⟩ : ∃ y, y = x3.heap.size := ⟨_, rfl⟩
      have HKox6 : Hid (Cs x6 o 25 (ncs 0 ⟨#[]⟩ 0 0 none 0 0)) := hid (by rw [hx6, ho]; exact Cs.new _ _ _)
      have HBx6 : Hid (Below U.heap.size U x6) := hid (by rw [hx6]; exact HBx3.out.alloc HBx3.out.size _)
      have HGo : Hid (U.heap.size ≤ o) := hid (by rw [ho]; exact HBx3.out.size)
      have HY := hid hx6
      have HO := hid ho
      clear hx6 ho
      go_simp
      rw [← HY.out, ← HO.out]
      clear HY HO
      refine hK9.out _ _ HBx6.out (fun hSS => ?_)
      clear hK9 K9
      try simp only [Act.put, List.setIfInBounds_toArray, List.set_cons_zero, List.set_cons_succ]
      refine wpAnyH_ready (rs := [4]) (by kernel_rfl) (by simp) (AllReadyH.cons (o := ({ dst := some 55, op := Op.buildSlice 23 2 #[(0, Operand.tmp 52), (1, Operand.tmp 54)], type := 23, pos := _, after := _, guard := none } : Oper)) rfl (fun K9 hK9 => ?_) AllReadyH.nil)
      obtain ⟨x4, hx4⟩ : ∃ y, y = x6.alloc (.cells (ten K ⟨#[]⟩ 0 3 (some ⟨g, 0, none⟩) 2 2 20 ⟨#[]⟩ C 0 none 0 0) 25) := ⟨_, rfl⟩
      obtain ⟨p, hp⟩ : ∃ y, y = x6.heap.size := ⟨_, rfl⟩
      have HKpx4 : Hid (Cs x4 p 25 (ten K ⟨#[]⟩ 0 3 (some ⟨g, 0, none⟩) 2 2 20 ⟨#[]⟩ C 0 none 0 0)) := hid (by rw [hx4, hp]; exact Cs.new _ _ _)
      have HBx4 : Hid (Below U.heap.size U x4) := hid (by rw [hx4]; exact HBx6.out.alloc HBx6.out.size _)
      have HGp : Hid (U.heap.size ≤ p) := hid (by rw [hp]; exact HBx6.out.size)
      have HKox4 : Hid (Cs x4 o 25 (ncs 0 ⟨#[]⟩ 0 0 none 0 0)) := hid (HKox6.out.next (by rw [hx4]; exact below1 _ _))
      have HNp : Hid (¬ o = p) := hid (by rw [hp]; exact Nat.ne_of_lt HKox6.out.lt)
      have HY := hid hx4
      have HO := hid hp
      clear hx4 hp
      go_simp
      rw [← HY.out, ← HO.out]
      clear HY HO
      refine hK9.out _ _ HBx4.out (fun hSS => ?_)
      clear hK9 K9
      try simp only [Act.put, List.setIfInBounds_toArray, List.set_cons_zero, List.set_cons_succ]
      refine wpAnyH_take (i := 5) (oi := ({ dst := some 56, op := Op.build 25 #[(0, Operand.tmp 51), (3, Operand.const (Value.int IntKind.i64 2)), (4, Operand.tmp 55)], type := 25, pos := _, after := _, guard := none } : Oper)) (v := ?_) rfl (by kernel_rfl) (by kernel_rfl) (by kernel_rfl) (fun _ _ _ h => h) (Or.inl ⟨by rfl, ?_⟩) hSS ?_
      rotate_left
      · intro w9 hSw
        first | (go_simp; done) | (go_simp; with_reducible rfl)
      try simp only [Act.put, List.setIfInBounds_toArray, List.set_cons_zero, List.set_cons_succ]
      refine wpAnyH_ready (rs := [7]) (by kernel_rfl) (by simp) (AllReadyH.cons (o := ({ dst := none, op := Op.store 25 (Operand.tmp 15) (Operand.tmp 56), type := 0, pos := _, after := _, guard := none } : Oper)) rfl (fun K9 hK9 => ?_) AllReadyH.nil)
      obtain ⟨q0, q1, q2, q3, q4⟩ := HKox4.out.five
      have f0 := HKox4.out.fz 0
      have f1 := HKox4.out.fz 1
      have f2 := HKox4.out.fz 2
      have f3 := HKox4.out.fz 3
      have f4 := HKox4.out.fz 4
      obtain ⟨W, hW⟩ : ∃ W, W = put5 x4 o (.int .i64 M) (.string ⟨#[]⟩) (.int .i64 0) (.int .i64 2) (.slice (some ⟨p, 0, none⟩) 2 2) := ⟨_, rfl⟩
      have HBW : Hid (Below U.heap.size U W) := hid (by rw [hW]; exact put5_below HBx4.out HGo.out)
      have HOW : Hid (Cs W o 25 (ncs M ⟨#[]⟩ 0 2 (some ⟨p, 0, none⟩) 2 2)) := hid (by rw [hW]; exact HKox4.out.p5)
      have HPW : Hid (Cs W p 25 (ten K ⟨#[]⟩ 0 3 (some ⟨g, 0, none⟩) 2 2 20 ⟨#[]⟩ C 0 none 0 0)) := hid (by rw [hW]; exact HKpx4.out.but (put5_but _ _ _ _ _ _ _) (fun h => HNp.out h.symm))
      have HW := hid hW
      clear hW
      go_simp
      (try unfold put5 at HW)
      rw [← HW.out]
      clear HW q0 q1 q2 q3 q4 f0 f1 f2 f3 f4
      refine hK9.out _ _ HBW.out (fun hSS => ?_)
      clear hK9 K9
      try simp only [Act.put, List.setIfInBounds_toArray, List.set_cons_zero, List.set_cons_succ]
      refine wpAnyH_done (by kernel_rfl) ?_ _
      have H10 := hid (num_in HK.out HA.out HB.out (HKI.out.next HBW.out) (HGU.out.next HBW.out))
      have HKO : Hid (KR (fun _ => False) W 2 (some ⟨p, 0, none⟩) 2 [inT K A B, numT C]) := hid (KR.two (t := inT K A B) (u := numT C) HPW.out (fun h => h) okTx okTx (HKI.out.next HBW.out) (KR.none 1))
      have H20 := hid (fun (u : World) (hu : Below W.heap.size W u) => num_out HM.out HK.out HA.out HB.out HC.out (HKO.out.next hu) ((HGU.out.next HBW.out).next hu))
      have H11 := hid (fun (u : World) => reckoned_law K 3 A B u HA.out HB.out HK.out)
      obtain ⟨n0, n1, n2, n3, n4⟩ := (HKN.out.next HBW.out).five
      have hlt := (HKN.out.next HBW.out).lt
      have HBw := hid (HBU.out.trans (HBW.out.mono HBU.out.size))
      clear hSS HKI HKN HGU HKO HPW
      rcases one_of K 3 A B with ⟨V, hV, he, hv, z1, z2⟩ | ⟨E, hE, he, z1, z2⟩
      · have ho := rk_out HM.out HK.out HA.out HB.out HC.out he
        rw [hv] at ho
        rw [z1] at H10
        simp only [z2] at H11
        simp only [ho] at H20
        have H21 := hid (fun (u : World) => reckoned_law M 2 V C u hV HC.out HM.out)
        clear he hv z1 z2 ho hV
        rcases one_of M 2 V C with ⟨V2, hV2, he2, hv2, y1, y2⟩ | ⟨E2, hE2, he2, y1, y2⟩
        · simp only [y1] at H20
          simp only [y2] at H21
          clear he2 hv2 y1 y2 hV2
          go_wp2_with fail
          refine Calls.mono H10.out ?_
          rintro e w2 ⟨rfl, hb2⟩
          have HB2 := hid hb2
          obtain ⟨m0, m1, m2, m3, m4⟩ := (HOW.out.next hb2).five
          have hlo := (HOW.out.next hb2).lt
          clear hb2 n0 n1 n2 n3 n4 hlt H10
          go_wp2_with fail
          refine Calls.mono (H11.out _) ?_
          rintro e w3 ⟨rfl, rfl⟩
          clear H11
          go_wp2_with fail
          refine Calls.mono (H20.out _ HB2.out) ?_
          rintro e w4 ⟨rfl, hb4⟩
          have HB4 := hid hb4
          clear hb4 H20 m0 m1 m2 m3 m4 hlo
          go_wp2_with fail
          refine Calls.mono (H21.out _) ?_
          rintro e w5 ⟨rfl, rfl⟩
          clear H21
          go_wp2_with fail
          exact poOf HPO.out ⟨rfl, HBw.out.trans ((HB2.out.trans (HB4.out.mono HB2.out.size)).mono HBw.out.size)⟩
        · simp only [y1] at H20
          simp only [y2] at H21
          clear he2 y1 y2
          have q2 : (E2 == 0) = false := by simpa using hE2
          go_wp2_with fail
          refine Calls.mono H10.out ?_
          rintro e w2 ⟨rfl, hb2⟩
          have HB2 := hid hb2
          obtain ⟨m0, m1, m2, m3, m4⟩ := (HOW.out.next hb2).five
          have hlo := (HOW.out.next hb2).lt
          clear hb2 n0 n1 n2 n3 n4 hlt H10
          go_wp2_with fail
          refine Calls.mono (H11.out _) ?_
          rintro e w3 ⟨rfl, rfl⟩
          clear H11
          go_wp2_with fail
          refine Calls.mono (H20.out _ HB2.out) ?_
          rintro e w4 ⟨rfl, hb4⟩
          have HB4 := hid hb4
          clear hb4 H20 m0 m1 m2 m3 m4 hlo
          go_wp2_with fail
          refine Calls.mono (H21.out _) ?_
          rintro e w5 ⟨rfl, rfl⟩
          clear H21
          go_wp2_with fail
          exact poOf HPO.out ⟨by show Ending.returned (Value.bool (E2 != 0)) = _; simp [hE2], HBw.out.trans ((HB2.out.trans (HB4.out.mono HB2.out.size)).mono HBw.out.size)⟩
      · have ho := rk_out_flt (c := C) HM.out HK.out HA.out HB.out (by rw [he]; exact hE)
        rw [z1] at H10
        simp only [z2] at H11
        simp only [ho, z1] at H20
        have q1 : (E == 0) = false := by simpa using hE
        clear he z1 z2 ho
        go_wp2_with fail
        refine Calls.mono H10.out ?_
        rintro e w2 ⟨rfl, hb2⟩
        have HB2 := hid hb2
        obtain ⟨m0, m1, m2, m3, m4⟩ := (HOW.out.next hb2).five
        have hlo := (HOW.out.next hb2).lt
        clear hb2 n0 n1 n2 n3 n4 hlt H10
        go_wp2_with fail
        refine Calls.mono (H11.out _) ?_
        rintro e w3 ⟨rfl, rfl⟩
        clear H11
        go_wp2_with fail
        refine Calls.mono (H20.out _ HB2.out) ?_
        rintro e w4 ⟨rfl, hb4⟩
        have HB4 := hid hb4
        clear hb4 H20 m0 m1 m2 m3 m4 hlo
        go_wp2_with fail
        exact poOf HPO.out ⟨rfl, HBw.out.trans ((HB2.out.trans (HB4.out.mono HB2.out.size)).mono HBw.out.size)⟩
  · clear hSS
    obtain ⟨x6, hx6⟩ : ∃ y, y = x0.alloc (.cells (ncs 0 ⟨#[]⟩ 0 0 none 0 0) 25) := ⟨_, rfl⟩
    obtain ⟨o, ho⟩ : ∃ y, y = x0.heap.size := ⟨_, rfl⟩
    have HKox6 : Hid (Cs x6 o 25 (ncs 0 ⟨#[]⟩ 0 0 none 0 0)) := hid (by rw [hx6, ho]; exact Cs.new _ _ _)
    have HBx6 : Hid (Below U.heap.size U x6) := hid (by rw [hx6]; exact HBx0.out.alloc HBx0.out.size _)
    have HGo : Hid (U.heap.size ≤ o) := hid (by rw [ho]; exact HBx0.out.size)
    have HY := hid hx6
    have HO := hid ho
    clear hx6 ho
    go_simp
    rw [← HY.out, ← HO.out]
    clear HY HO
    refine hK9.out _ _ HBx6.out (fun hSS => ?_)
    clear hK9 K9
    try simp only [Act.put, List.setIfInBounds_toArray, List.set_cons_zero, List.set_cons_succ]
    refine wpAnyH_ready (rs := [3]) (by kernel_rfl) (by simp) (AllReadyH.cons (o := ({ dst := some 54, op := Op.call { callee := Callee.value (Operand.func 9), args := #[Operand.tmp 53], argTypes := #[3] }, type := 25, pos := _, after := _, guard := none } : Oper)) rfl (fun K9 hK9 => ?_) AllReadyH.nil)
    go_simp
    go_at_call 9
    refine Calls.mono (number_law _ _) ?_
    rintro e x3 ⟨rfl, hx3⟩
    have HBx3 : Hid (Below U.heap.size U x3) := hid (by rw [hx3]; exact HBx6.out.alloc HBx6.out.size _)
    have HKox3 : Hid (Cs x3 o 25 (ncs 0 ⟨#[]⟩ 0 0 none 0 0)) := hid (HKox6.out.next (by rw [hx3]; exact below1 _ _))
    clear hx3
    refine hK9.out _ _ HBx3.out (fun hSS => ?_)
    clear hK9 K9
    try simp only [Act.put, List.setIfInBounds_toArray, List.set_cons_zero, List.set_cons_succ]
    refine wpAnyH_ready (rs := [4]) (by kernel_rfl) (by simp) (AllReadyH.cons (o := ({ dst := some 55, op := Op.buildSlice 23 2 #[(0, Operand.tmp 52), (1, Operand.tmp 54)], type := 23, pos := _, after := _, guard := none } : Oper)) rfl (fun K9 hK9 => ?_) AllReadyH.nil)
    obtain ⟨x4, hx4⟩ : ∃ y, y = x3.alloc (.cells (ten K ⟨#[]⟩ 0 3 (some ⟨g, 0, none⟩) 2 2 20 ⟨#[]⟩ C 0 none 0 0) 25) := ⟨_, rfl⟩
    obtain ⟨p, hp⟩ : ∃ y, y = x3.heap.size := ⟨_, rfl⟩
    have HKpx4 : Hid (Cs x4 p 25 (ten K ⟨#[]⟩ 0 3 (some ⟨g, 0, none⟩) 2 2 20 ⟨#[]⟩ C 0 none 0 0)) := hid (by rw [hx4, hp]; exact Cs.new _ _ _)
    have HBx4 : Hid (Below U.heap.size U x4) := hid (by rw [hx4]; exact HBx3.out.alloc HBx3.out.size _)
    have HGp : Hid (U.heap.size ≤ p) := hid (by rw [hp]; exact HBx3.out.size)
    have HKox4 : Hid (Cs x4 o 25 (ncs 0 ⟨#[]⟩ 0 0 none 0 0)) := hid (HKox3.out.next (by rw [hx4]; exact below1 _ _))
    have HNp : Hid (¬ o = p) := hid (by rw [hp]; exact Nat.ne_of_lt HKox3.out.lt)
    have HY := hid hx4
    have HO := hid hp
    clear hx4 hp
    go_simp
    rw [← HY.out, ← HO.out]
    clear HY HO
    refine hK9.out _ _ HBx4.out (fun hSS => ?_)
    clear hK9 K9
    try simp only [Act.put, List.setIfInBounds_toArray, List.set_cons_zero, List.set_cons_succ]
    refine wpAnyH_take (i := 5) (oi := ({ dst := some 56, op := Op.build 25 #[(0, Operand.tmp 51), (3, Operand.const (Value.int IntKind.i64 2)), (4, Operand.tmp 55)], type := 25, pos := _, after := _, guard := none } : Oper)) (v := ?_) rfl (by kernel_rfl) (by kernel_rfl) (by kernel_rfl) (fun _ _ _ h => h) (Or.inl ⟨by rfl, ?_⟩) hSS ?_
    rotate_left
    · intro w9 hSw
      first | (go_simp; done) | (go_simp; with_reducible rfl)
    try simp only [Act.put, List.setIfInBounds_toArray, List.set_cons_zero, List.set_cons_succ]
    refine wpAnyH_ready (rs := [7]) (by kernel_rfl) (by simp) (AllReadyH.cons (o := ({ dst := none, op := Op.store 25 (Operand.tmp 15) (Operand.tmp 56), type := 0, pos := _, after := _, guard := none } : Oper)) rfl (fun K9 hK9 => ?_) AllReadyH.nil)
    obtain ⟨q0, q1, q2, q3, q4⟩ := HKox4.out.five
    have f0 := HKox4.out.fz 0
    have f1 := HKox4.out.fz 1
    have f2 := HKox4.out.fz 2
    have f3 := HKox4.out.fz 3
    have f4 := HKox4.out.fz 4
    obtain ⟨W, hW⟩ : ∃ W, W = put5 x4 o (.int .i64 M) (.string ⟨#[]⟩) (.int .i64 0) (.int .i64 2) (.slice (some ⟨p, 0, none⟩) 2 2) := ⟨_, rfl⟩
    have HBW : Hid (Below U.heap.size U W) := hid (by rw [hW]; exact put5_below HBx4.out HGo.out)
    have HOW : Hid (Cs W o 25 (ncs M ⟨#[]⟩ 0 2 (some ⟨p, 0, none⟩) 2 2)) := hid (by rw [hW]; exact HKox4.out.p5)
    have HPW : Hid (Cs W p 25 (ten K ⟨#[]⟩ 0 3 (some ⟨g, 0, none⟩) 2 2 20 ⟨#[]⟩ C 0 none 0 0)) := hid (by rw [hW]; exact HKpx4.out.but (put5_but _ _ _ _ _ _ _) (fun h => HNp.out h.symm))
    have HW := hid hW
    clear hW
    go_simp
    (try unfold put5 at HW)
    rw [← HW.out]
    clear HW q0 q1 q2 q3 q4 f0 f1 f2 f3 f4
    refine hK9.out _ _ HBW.out (fun hSS => ?_)
    clear hK9 K9
    try simp only [Act.put, List.setIfInBounds_toArray, List.set_cons_zero, List.set_cons_succ]
    refine wpAnyH_done (by kernel_rfl) ?_ _
    have H10 := hid (num_in HK.out HA.out HB.out (HKI.out.next HBW.out) (HGU.out.next HBW.out))
    have HKO : Hid (KR (fun _ => False) W 2 (some ⟨p, 0, none⟩) 2 [inT K A B, numT C]) := hid (KR.two (t := inT K A B) (u := numT C) HPW.out (fun h => h) okTx okTx (HKI.out.next HBW.out) (KR.none 1))
    have H20 := hid (fun (u : World) (hu : Below W.heap.size W u) => num_out HM.out HK.out HA.out HB.out HC.out (HKO.out.next hu) ((HGU.out.next HBW.out).next hu))
    have H11 := hid (fun (u : World) => reckoned_law K 3 A B u HA.out HB.out HK.out)
    obtain ⟨n0, n1, n2, n3, n4⟩ := (HKN.out.next HBW.out).five
    have hlt := (HKN.out.next HBW.out).lt
    have HBw := hid (HBU.out.trans (HBW.out.mono HBU.out.size))
    clear hSS HKI HKN HGU HKO HPW
    rcases one_of K 3 A B with ⟨V, hV, he, hv, z1, z2⟩ | ⟨E, hE, he, z1, z2⟩
    · have ho := rk_out HM.out HK.out HA.out HB.out HC.out he
      rw [hv] at ho
      rw [z1] at H10
      simp only [z2] at H11
      simp only [ho] at H20
      have H21 := hid (fun (u : World) => reckoned_law M 2 V C u hV HC.out HM.out)
      clear he hv z1 z2 ho hV
      rcases one_of M 2 V C with ⟨V2, hV2, he2, hv2, y1, y2⟩ | ⟨E2, hE2, he2, y1, y2⟩
      · simp only [y1] at H20
        simp only [y2] at H21
        clear he2 hv2 y1 y2 hV2
        go_wp2_with fail
        refine Calls.mono H10.out ?_
        rintro e w2 ⟨rfl, hb2⟩
        have HB2 := hid hb2
        obtain ⟨m0, m1, m2, m3, m4⟩ := (HOW.out.next hb2).five
        have hlo := (HOW.out.next hb2).lt
        clear hb2 n0 n1 n2 n3 n4 hlt H10
        go_wp2_with fail
        refine Calls.mono (H11.out _) ?_
        rintro e w3 ⟨rfl, rfl⟩
        clear H11
        go_wp2_with fail
        refine Calls.mono (H20.out _ HB2.out) ?_
        rintro e w4 ⟨rfl, hb4⟩
        have HB4 := hid hb4
        clear hb4 H20 m0 m1 m2 m3 m4 hlo
        go_wp2_with fail
        refine Calls.mono (H21.out _) ?_
        rintro e w5 ⟨rfl, rfl⟩
        clear H21
        go_wp2_with fail
        exact poOf HPO.out ⟨rfl, HBw.out.trans ((HB2.out.trans (HB4.out.mono HB2.out.size)).mono HBw.out.size)⟩
      · simp only [y1] at H20
        simp only [y2] at H21
        clear he2 y1 y2
        have q2 : (E2 == 0) = false := by simpa using hE2
        go_wp2_with fail
        refine Calls.mono H10.out ?_
        rintro e w2 ⟨rfl, hb2⟩
        have HB2 := hid hb2
        obtain ⟨m0, m1, m2, m3, m4⟩ := (HOW.out.next hb2).five
        have hlo := (HOW.out.next hb2).lt
        clear hb2 n0 n1 n2 n3 n4 hlt H10
        go_wp2_with fail
        refine Calls.mono (H11.out _) ?_
        rintro e w3 ⟨rfl, rfl⟩
        clear H11
        go_wp2_with fail
        refine Calls.mono (H20.out _ HB2.out) ?_
        rintro e w4 ⟨rfl, hb4⟩
        have HB4 := hid hb4
        clear hb4 H20 m0 m1 m2 m3 m4 hlo
        go_wp2_with fail
        refine Calls.mono (H21.out _) ?_
        rintro e w5 ⟨rfl, rfl⟩
        clear H21
        go_wp2_with fail
        exact poOf HPO.out ⟨by show Ending.returned (Value.bool (E2 != 0)) = _; simp [hE2], HBw.out.trans ((HB2.out.trans (HB4.out.mono HB2.out.size)).mono HBw.out.size)⟩
    · have ho := rk_out_flt (c := C) HM.out HK.out HA.out HB.out (by rw [he]; exact hE)
      rw [z1] at H10
      simp only [z2] at H11
      simp only [ho, z1] at H20
      have q1 : (E == 0) = false := by simpa using hE
      clear he z1 z2 ho
      go_wp2_with fail
      refine Calls.mono H10.out ?_
      rintro e w2 ⟨rfl, hb2⟩
      have HB2 := hid hb2
      obtain ⟨m0, m1, m2, m3, m4⟩ := (HOW.out.next hb2).five
      have hlo := (HOW.out.next hb2).lt
      clear hb2 n0 n1 n2 n3 n4 hlt H10
      go_wp2_with fail
      refine Calls.mono (H11.out _) ?_
      rintro e w3 ⟨rfl, rfl⟩
      clear H11
      go_wp2_with fail
      refine Calls.mono (H20.out _ HB2.out) ?_
      rintro e w4 ⟨rfl, hb4⟩
      have HB4 := hid hb4
      clear hb4 H20 m0 m1 m2 m3 m4 hlo
      go_wp2_with fail
      exact poOf HPO.out ⟨rfl, HBw.out.trans ((HB2.out.trans (HB4.out.mono HB2.out.size)).mono HBw.out.size)⟩

end Go.Proofs.YtbllaacbeagljaaGreatDoor
