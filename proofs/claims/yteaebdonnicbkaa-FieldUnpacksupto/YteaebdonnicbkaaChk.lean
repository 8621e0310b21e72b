/-
  checkField.
-/
import Derived.Test.YteaebdonnicbkaaUnst
namespace Go.Proofs.Yteaebdonnicbkaa
open Go.RowKit

/-- may a field be? 0, or the error -/
def chk (x v : Int) : Int := if wfB x = false then 10 else if v < 0 ∨ 256 ^ x.toNat ≤ v then 11 else 0

set_option maxRecDepth 100000 in
set_option maxHeartbeats 1000000 in
theorem checkField_any (x v : Int) (w : World) (v1 : -9223372036854775808 ≤ v) (v2 : v ≤ 9223372036854775807) :
    Calls Try.prog 37 #[.agg #[.int .i64 x, .int .i64 v]] w fun e w' => e = .returned (.int .i64 (chk x v)) ∧ w' = w.alloc (.cells #[.int .i64 x, .int .i64 v] 38) := by
  by_cases hx : wfB x = true
  · have hx' : 1 ≤ x ∧ x ≤ 8 := by simpa [wfB] using hx
    have HX : Hid (wfB x = true) := hx
    by_cases hv : v < 0
    · have e : chk x v = 11 := by simp [chk, hx, hv]
      rw [e]
      clear e
      go_enter Try.func37, Try.ntmps37
      go_wp2_with (go_at_call 38; refine (widthFits_any _ _).mono ?_; rintro e w' ⟨rfl, rfl⟩)
      go_ret
      exact ⟨rfl, rfl⟩
    · have hv0 : 0 ≤ v := by omega
      have e : chk x v = if 256 ^ x.toNat ≤ v then 11 else 0 := by simp [chk, hx, hv]
      rw [e]
      clear e hv
      rcases (show x = 1 ∨ x = 2 ∨ x = 3 ∨ x = 4 ∨ x = 5 ∨ x = 6 ∨ x = 7 ∨ x = 8 from by omega) with rfl | rfl | rfl | rfl | rfl | rfl | rfl | rfl
      · rw [show (256 : Int) ^ (1 : Int).toNat = 256 from by decide]
        clear hx' HX
        by_cases h : 256 ≤ v
        · have h2 : (v / 256 != 0) = true := by simp; omega
          rw [if_pos h]
          go_enter Try.func37, Try.ntmps37
          go_wp2_with (go_at_call 38; refine (widthFits_any _ _).mono ?_; rintro e w' ⟨rfl, rfl⟩)
          go_ret
          exact ⟨rfl, rfl⟩
        · have h2 : (v / 256 != 0) = false := by simp; omega
          rw [if_neg h]
          go_enter Try.func37, Try.ntmps37
          go_wp2_with (go_at_call 38; refine (widthFits_any _ _).mono ?_; rintro e w' ⟨rfl, rfl⟩)
          go_ret
          exact ⟨rfl, rfl⟩
      · rw [show (256 : Int) ^ (2 : Int).toNat = 65536 from by decide]
        clear hx' HX
        by_cases h : 65536 ≤ v
        · have h2 : (v / 65536 != 0) = true := by simp; omega
          rw [if_pos h]
          go_enter Try.func37, Try.ntmps37
          go_wp2_with (go_at_call 38; refine (widthFits_any _ _).mono ?_; rintro e w' ⟨rfl, rfl⟩)
          go_ret
          exact ⟨rfl, rfl⟩
        · have h2 : (v / 65536 != 0) = false := by simp; omega
          rw [if_neg h]
          go_enter Try.func37, Try.ntmps37
          go_wp2_with (go_at_call 38; refine (widthFits_any _ _).mono ?_; rintro e w' ⟨rfl, rfl⟩)
          go_ret
          exact ⟨rfl, rfl⟩
      · rw [show (256 : Int) ^ (3 : Int).toNat = 16777216 from by decide]
        clear hx' HX
        by_cases h : 16777216 ≤ v
        · have h2 : (v / 16777216 != 0) = true := by simp; omega
          rw [if_pos h]
          go_enter Try.func37, Try.ntmps37
          go_wp2_with (go_at_call 38; refine (widthFits_any _ _).mono ?_; rintro e w' ⟨rfl, rfl⟩)
          go_ret
          exact ⟨rfl, rfl⟩
        · have h2 : (v / 16777216 != 0) = false := by simp; omega
          rw [if_neg h]
          go_enter Try.func37, Try.ntmps37
          go_wp2_with (go_at_call 38; refine (widthFits_any _ _).mono ?_; rintro e w' ⟨rfl, rfl⟩)
          go_ret
          exact ⟨rfl, rfl⟩
      · rw [show (256 : Int) ^ (4 : Int).toNat = 4294967296 from by decide]
        clear hx' HX
        by_cases h : 4294967296 ≤ v
        · have h2 : (v / 4294967296 != 0) = true := by simp; omega
          rw [if_pos h]
          go_enter Try.func37, Try.ntmps37
          go_wp2_with (go_at_call 38; refine (widthFits_any _ _).mono ?_; rintro e w' ⟨rfl, rfl⟩)
          go_ret
          exact ⟨rfl, rfl⟩
        · have h2 : (v / 4294967296 != 0) = false := by simp; omega
          rw [if_neg h]
          go_enter Try.func37, Try.ntmps37
          go_wp2_with (go_at_call 38; refine (widthFits_any _ _).mono ?_; rintro e w' ⟨rfl, rfl⟩)
          go_ret
          exact ⟨rfl, rfl⟩
      · rw [show (256 : Int) ^ (5 : Int).toNat = 1099511627776 from by decide]
        clear hx' HX
        by_cases h : 1099511627776 ≤ v
        · have h2 : (v / 1099511627776 != 0) = true := by simp; omega
          rw [if_pos h]
          go_enter Try.func37, Try.ntmps37
          go_wp2_with (go_at_call 38; refine (widthFits_any _ _).mono ?_; rintro e w' ⟨rfl, rfl⟩)
          go_ret
          exact ⟨rfl, rfl⟩
        · have h2 : (v / 1099511627776 != 0) = false := by simp; omega
          rw [if_neg h]
          go_enter Try.func37, Try.ntmps37
          go_wp2_with (go_at_call 38; refine (widthFits_any _ _).mono ?_; rintro e w' ⟨rfl, rfl⟩)
          go_ret
          exact ⟨rfl, rfl⟩
      · rw [show (256 : Int) ^ (6 : Int).toNat = 281474976710656 from by decide]
        clear hx' HX
        by_cases h : 281474976710656 ≤ v
        · have h2 : (v / 281474976710656 != 0) = true := by simp; omega
          rw [if_pos h]
          go_enter Try.func37, Try.ntmps37
          go_wp2_with (go_at_call 38; refine (widthFits_any _ _).mono ?_; rintro e w' ⟨rfl, rfl⟩)
          go_ret
          exact ⟨rfl, rfl⟩
        · have h2 : (v / 281474976710656 != 0) = false := by simp; omega
          rw [if_neg h]
          go_enter Try.func37, Try.ntmps37
          go_wp2_with (go_at_call 38; refine (widthFits_any _ _).mono ?_; rintro e w' ⟨rfl, rfl⟩)
          go_ret
          exact ⟨rfl, rfl⟩
      · rw [show (256 : Int) ^ (7 : Int).toNat = 72057594037927936 from by decide]
        clear hx' HX
        by_cases h : 72057594037927936 ≤ v
        · have h2 : (v / 72057594037927936 != 0) = true := by simp; omega
          rw [if_pos h]
          go_enter Try.func37, Try.ntmps37
          go_wp2_with (go_at_call 38; refine (widthFits_any _ _).mono ?_; rintro e w' ⟨rfl, rfl⟩)
          go_ret
          exact ⟨rfl, rfl⟩
        · have h2 : (v / 72057594037927936 != 0) = false := by simp; omega
          rw [if_neg h]
          go_enter Try.func37, Try.ntmps37
          go_wp2_with (go_at_call 38; refine (widthFits_any _ _).mono ?_; rintro e w' ⟨rfl, rfl⟩)
          go_ret
          exact ⟨rfl, rfl⟩
      · rw [show (256 : Int) ^ (8 : Int).toNat = 18446744073709551616 from by decide]
        clear hx' HX
        have h2 : (v / 18446744073709551616 != 0) = false := by simp; omega
        rw [if_neg (by omega)]
        go_enter Try.func37, Try.ntmps37
        go_wp2_with (go_at_call 38; refine (widthFits_any _ _).mono ?_; rintro e w' ⟨rfl, rfl⟩)
        go_ret
        exact ⟨rfl, rfl⟩
  · have hx2 : wfB x = false := by simpa using hx
    have e : chk x v = 10 := by simp [chk, hx2]
    rw [e]
    clear e hx
    go_enter Try.func37, Try.ntmps37
    go_wp2_with (go_at_call 38; refine (widthFits_any _ _).mono ?_; rintro e w' ⟨rfl, rfl⟩)
    go_ret
    exact ⟨rfl, rfl⟩

end Go.Proofs.Yteaebdonnicbkaa
