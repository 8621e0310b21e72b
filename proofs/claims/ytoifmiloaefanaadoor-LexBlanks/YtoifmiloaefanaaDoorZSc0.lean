import Derived.Test.YtoifmiloaefanaaDoorZLx0
import Derived.Test.YtoifmiloaefanaaDoorZBut
/-
  lex: what bytes are.
-/
namespace Go.Proofs.YtoifmiloaefanaaDoor
open Go.RowKit

theorem rb {x y : Bool} (h : x = true ↔ y = true) : (Ending.returned (.bool x)) = .returned (.bool y) := by rw [Bool.eq_iff_iff.2 h]

set_option maxHeartbeats 400000 in
theorem isOfLine_any (z : Int) (w : World) : Calls Tryd.prog 40 #[.int .u8 z] w fun e w' => e = .returned (.bool (isLn z)) ∧ w' = w := by
  go_enter Tryd.func40, Tryd.ntmps40
  go_wp2
  all_goals go_ret
  all_goals exact ⟨by first | (simp [isLn, *]; done) | (refine rb ?_; simp [isLn]; done) | (refine rb ?_; simp [isLn]; omega), rfl⟩
set_option maxHeartbeats 400000 in
theorem isLetter_any (z : Int) (w : World) : Calls Tryd.prog 52 #[.int .u8 z] w fun e w' => e = .returned (.bool (isLet z)) ∧ w' = w := by
  go_enter Tryd.func52, Tryd.ntmps52
  by_cases h1 : 97 ≤ z <;> by_cases h2 : z ≤ 122 <;> by_cases h3 : 65 ≤ z <;> by_cases h4 : z ≤ 90 <;> by_cases h5 : z = 95
  all_goals go_wp2
  all_goals go_ret
  all_goals exact ⟨by first | (simp [isLet, *]; done) | (refine rb ?_; simp [isLet]; done) | (refine rb ?_; simp [isLet]; omega), rfl⟩
set_option maxHeartbeats 400000 in
theorem isDigit_any (z : Int) (w : World) : Calls Tryd.prog 66 #[.int .u8 z] w fun e w' => e = .returned (.bool (isDig z)) ∧ w' = w := by
  go_enter Tryd.func66, Tryd.ntmps66
  by_cases h1 : 48 ≤ z <;> by_cases h2 : z ≤ 57
  all_goals go_wp2
  all_goals go_ret
  all_goals exact ⟨by first | (simp [isDig, *]; done) | (refine rb ?_; simp [isDig]; done) | (refine rb ?_; simp [isDig]; omega), rfl⟩
set_option maxHeartbeats 400000 in
theorem isOfWord_any (z : Int) (w : World) : Calls Tryd.prog 60 #[.int .u8 z] w fun e w' => e = .returned (.bool (isWd z)) ∧ w' = w := by
  have H1 := hid (isLetter_any z w)
  have H2 := hid (isDigit_any z w)
  unfold isWd
  generalize isLet z = x at *
  generalize isDig z = y at *
  go_enter Tryd.func60, Tryd.ntmps60
  cases x <;> cases y
  all_goals (go_wp2_with fail; refine Calls.mono H1.out ?_; rintro e w' ⟨rfl, rfl⟩)
  all_goals go_wp2_with (go_at_call 66; refine Calls.mono H2.out ?_; rintro e w' ⟨rfl, rfl⟩)
  all_goals go_ret
  all_goals exact ⟨rfl, rfl⟩
set_option maxHeartbeats 400000 in
theorem isOfName_any (z : Int) (w : World) : Calls Tryd.prog 57 #[.int .u8 z] w fun e w' => e = .returned (.bool (isPn z)) ∧ w' = w := by
  go_enter Tryd.func57, Tryd.ntmps57
  by_cases h1 : z = 34
  · subst h1
    go_wp2
    go_ret
    exact ⟨rfl, rfl⟩
  by_cases h2 : z = 36
  · subst h2
    go_wp2
    go_ret
    exact ⟨rfl, rfl⟩
  by_cases h3 : z = 123
  · subst h3
    go_wp2
    go_ret
    exact ⟨rfl, rfl⟩
  by_cases h4 : z = 125
  · subst h4
    go_wp2
    go_ret
    exact ⟨rfl, rfl⟩
  by_cases h5 : 32 ≤ z <;> by_cases h6 : z ≤ 126
  all_goals go_wp2
  all_goals go_ret
  all_goals exact ⟨by first | (simp [isPn, isQt, *]; done) | (refine rb ?_; simp [isPn, isQt]; done) | (refine rb ?_; simp [isPn, isQt]; omega), rfl⟩

/-! ### the document's -/
set_option maxHeartbeats 400000 in
theorem rletter_any (z : Int) (w : World) : Calls Tryd.prog 45 #[.int .u8 z] w fun e w' => e = .returned (.bool (isLet z)) ∧ w' = w := by
  go_enter Tryd.func45, Tryd.ntmps45
  by_cases h1 : 97 ≤ z <;> by_cases h2 : z ≤ 122 <;> by_cases h3 : 65 ≤ z <;> by_cases h4 : z ≤ 90 <;> by_cases h5 : z = 95
  all_goals go_wp2
  all_goals go_ret
  all_goals exact ⟨by first | (simp [isLet, *]; done) | (refine rb ?_; simp [isLet]; done) | (refine rb ?_; simp [isLet]; omega), rfl⟩
set_option maxHeartbeats 400000 in
theorem rdigit_any (z : Int) (w : World) : Calls Tryd.prog 46 #[.int .u8 z] w fun e w' => e = .returned (.bool (isDig z)) ∧ w' = w := by
  go_enter Tryd.func46, Tryd.ntmps46
  by_cases h1 : 48 ≤ z <;> by_cases h2 : z ≤ 57
  all_goals go_wp2
  all_goals go_ret
  all_goals exact ⟨by first | (simp [isDig, *]; done) | (refine rb ?_; simp [isDig]; done) | (refine rb ?_; simp [isDig]; omega), rfl⟩
end Go.Proofs.YtoifmiloaefanaaDoor
