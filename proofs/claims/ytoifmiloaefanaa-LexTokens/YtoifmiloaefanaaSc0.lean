/-
  lex: what bytes are.
-/
import Derived.Test.YtoifmiloaefanaaLx0
import Derived.Test.YtoifmiloaefanaaBut
namespace Go.Proofs.Ytoifmiloaefanaa
open Go.RowKit

theorem rb {x y : Bool} (h : x = true ↔ y = true) : (Ending.returned (.bool x)) = .returned (.bool y) := by rw [Bool.eq_iff_iff.2 h]

set_option maxHeartbeats 400000 in
theorem isOfLine_any (z : Int) (w : World) : Calls Try.prog 34 #[.int .u8 z] w fun e w' => e = .returned (.bool (isLn z)) ∧ w' = w := by
  go_enter Try.func34, Try.ntmps34
  go_wp2
  all_goals go_ret
  all_goals exact ⟨by first | (simp [isLn, *]; done) | (refine rb ?_; simp [isLn]; done) | (refine rb ?_; simp [isLn]; omega), rfl⟩
set_option maxHeartbeats 400000 in
theorem isLetter_any (z : Int) (w : World) : Calls Try.prog 42 #[.int .u8 z] w fun e w' => e = .returned (.bool (isLet z)) ∧ w' = w := by
  go_enter Try.func42, Try.ntmps42
  by_cases h1 : 97 ≤ z <;> by_cases h2 : z ≤ 122 <;> by_cases h3 : 65 ≤ z <;> by_cases h4 : z ≤ 90 <;> by_cases h5 : z = 95
  all_goals go_wp2
  all_goals go_ret
  all_goals exact ⟨by first | (simp [isLet, *]; done) | (refine rb ?_; simp [isLet]; done) | (refine rb ?_; simp [isLet]; omega), rfl⟩
set_option maxHeartbeats 400000 in
theorem isDigit_any (z : Int) (w : World) : Calls Try.prog 50 #[.int .u8 z] w fun e w' => e = .returned (.bool (isDig z)) ∧ w' = w := by
  go_enter Try.func50, Try.ntmps50
  by_cases h1 : 48 ≤ z <;> by_cases h2 : z ≤ 57
  all_goals go_wp2
  all_goals go_ret
  all_goals exact ⟨by first | (simp [isDig, *]; done) | (refine rb ?_; simp [isDig]; done) | (refine rb ?_; simp [isDig]; omega), rfl⟩
set_option maxHeartbeats 400000 in
theorem isOfWord_any (z : Int) (w : World) : Calls Try.prog 48 #[.int .u8 z] w fun e w' => e = .returned (.bool (isWd z)) ∧ w' = w := by
  have H1 := hid (isLetter_any z w)
  have H2 := hid (isDigit_any z w)
  unfold isWd
  generalize isLet z = x at *
  generalize isDig z = y at *
  go_enter Try.func48, Try.ntmps48
  cases x <;> cases y
  all_goals (go_wp2_with fail; refine Calls.mono H1.out ?_; rintro e w' ⟨rfl, rfl⟩)
  all_goals go_wp2_with (go_at_call 50; refine Calls.mono H2.out ?_; rintro e w' ⟨rfl, rfl⟩)
  all_goals go_ret
  all_goals exact ⟨rfl, rfl⟩
set_option maxHeartbeats 400000 in
theorem isOfName_any (z : Int) (w : World) : Calls Try.prog 45 #[.int .u8 z] w fun e w' => e = .returned (.bool (isPn z)) ∧ w' = w := by
  go_enter Try.func45, Try.ntmps45
  by_cases h1 : z = 34
  · subst h1
    go_wp2
    go_ret
    exact ⟨rfl, rfl⟩
  by_cases h2 : z = 36
  · subst h2
    go_wp2
    go_ret
    exact ⟨rfl, rfl⟩
  by_cases h3 : z = 123
  · subst h3
    go_wp2
    go_ret
    exact ⟨rfl, rfl⟩
  by_cases h4 : z = 125
  · subst h4
    go_wp2
    go_ret
    exact ⟨rfl, rfl⟩
  by_cases h5 : 32 ≤ z <;> by_cases h6 : z ≤ 126
  all_goals go_wp2
  all_goals go_ret
  all_goals exact ⟨by first | (simp [isPn, isQt, *]; done) | (refine rb ?_; simp [isPn, isQt]; done) | (refine rb ?_; simp [isPn, isQt]; omega), rfl⟩

/-! ### the document's -/
set_option maxHeartbeats 400000 in
theorem rletter_any (z : Int) (w : World) : Calls Try.prog 26 #[.int .u8 z] w fun e w' => e = .returned (.bool (isLet z)) ∧ w' = w := by
  go_enter Try.func26, Try.ntmps26
  by_cases h1 : 97 ≤ z <;> by_cases h2 : z ≤ 122 <;> by_cases h3 : 65 ≤ z <;> by_cases h4 : z ≤ 90 <;> by_cases h5 : z = 95
  all_goals go_wp2
  all_goals go_ret
  all_goals exact ⟨by first | (simp [isLet, *]; done) | (refine rb ?_; simp [isLet]; done) | (refine rb ?_; simp [isLet]; omega), rfl⟩
set_option maxHeartbeats 400000 in
theorem rdigit_any (z : Int) (w : World) : Calls Try.prog 28 #[.int .u8 z] w fun e w' => e = .returned (.bool (isDig z)) ∧ w' = w := by
  go_enter Try.func28, Try.ntmps28
  by_cases h1 : 48 ≤ z <;> by_cases h2 : z ≤ 57
  all_goals go_wp2
  all_goals go_ret
  all_goals exact ⟨by first | (simp [isDig, *]; done) | (refine rb ?_; simp [isDig]; done) | (refine rb ?_; simp [isDig]; omega), rfl⟩
set_option maxHeartbeats 400000 in
theorem rblank_any (z : Int) (w : World) : Calls Try.prog 25 #[.int .u8 z] w fun e w' => e = .returned (.bool (isBl z)) ∧ w' = w := by
  go_enter Try.func25, Try.ntmps25
  by_cases h1 : z = 32 <;> by_cases h2 : z = 9 <;> by_cases h3 : z = 10 <;> by_cases h4 : z = 13
  all_goals go_wp2
  all_goals go_ret
  all_goals exact ⟨by first | (simp [isBl, *]; done) | (refine rb ?_; simp [isBl]; done) | (refine rb ?_; simp [isBl]; omega), rfl⟩

end Go.Proofs.Ytoifmiloaefanaa
