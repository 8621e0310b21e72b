/-
  lex: what bytes are.
-/
import Derived.Test.YtbllaacbeagljaaGreatDoorLx0
import Derived.Test.YtbllaacbeagljaaGreatDoorBut
namespace Go.Proofs.YtbllaacbeagljaaGreatDoor
open Go.RowKit

theorem rb {x y : Bool} (h : x = true ↔ y = true) : (Ending.returned (.bool x)) = .returned (.bool y) := by rw [Bool.eq_iff_iff.2 h]

set_option maxHeartbeats 400000 in
theorem isLetter_any (z : Int) (w : World) : Calls Tryz.prog 172 #[.int .u8 z] w fun e w' => e = .returned (.bool (isLet z)) ∧ w' = w := by
  go_enter Tryz.func172, Tryz.ntmps172
  by_cases h1 : 97 ≤ z <;> by_cases h2 : z ≤ 122 <;> by_cases h3 : 65 ≤ z <;> by_cases h4 : z ≤ 90 <;> by_cases h5 : z = 95
  all_goals go_wp2
  all_goals go_ret
  all_goals exact ⟨by first | (simp [isLet, *]; done) | (refine rb ?_; simp [isLet]; done) | (refine rb ?_; simp [isLet]; omega), rfl⟩
set_option maxHeartbeats 400000 in
theorem isDigit_any (z : Int) (w : World) : Calls Tryz.prog 184 #[.int .u8 z] w fun e w' => e = .returned (.bool (isDig z)) ∧ w' = w := by
  go_enter Tryz.func184, Tryz.ntmps184
  by_cases h1 : 48 ≤ z <;> by_cases h2 : z ≤ 57
  all_goals go_wp2
  all_goals go_ret
  all_goals exact ⟨by first | (simp [isDig, *]; done) | (refine rb ?_; simp [isDig]; done) | (refine rb ?_; simp [isDig]; omega), rfl⟩
set_option maxHeartbeats 400000 in
theorem isOfWord_any (z : Int) (w : World) : Calls Tryz.prog 181 #[.int .u8 z] w fun e w' => e = .returned (.bool (isWd z)) ∧ w' = w := by
  have H1 := hid (isLetter_any z w)
  have H2 := hid (isDigit_any z w)
  unfold isWd
  generalize isLet z = x at *
  generalize isDig z = y at *
  go_enter Tryz.func181, Tryz.ntmps181
  cases x <;> cases y
  all_goals (go_wp2_with fail; refine Calls.mono H1.out ?_; rintro e w' ⟨rfl, rfl⟩)
  all_goals go_wp2_with (go_at_call 184; refine Calls.mono H2.out ?_; rintro e w' ⟨rfl, rfl⟩)
  all_goals go_ret
  all_goals exact ⟨rfl, rfl⟩
set_option maxHeartbeats 400000 in
theorem isOfName_any (z : Int) (w : World) : Calls Tryz.prog 178 #[.int .u8 z] w fun e w' => e = .returned (.bool (isPn z)) ∧ w' = w := by
  go_enter Tryz.func178, Tryz.ntmps178
  by_cases h1 : z = 34
  · subst h1
    go_wp2
    go_ret
    exact ⟨rfl, rfl⟩
  by_cases h2 : z = 36
  · subst h2
    go_wp2
    go_ret
    exact ⟨rfl, rfl⟩
  by_cases h3 : z = 123
  · subst h3
    go_wp2
    go_ret
    exact ⟨rfl, rfl⟩
  by_cases h4 : z = 125
  · subst h4
    go_wp2
    go_ret
    exact ⟨rfl, rfl⟩
  by_cases h5 : 32 ≤ z <;> by_cases h6 : z ≤ 126
  all_goals go_wp2
  all_goals go_ret
  all_goals exact ⟨by first | (simp [isPn, isQt, *]; done) | (refine rb ?_; simp [isPn, isQt]; done) | (refine rb ?_; simp [isPn, isQt]; omega), rfl⟩

/-! ### the document's -/
end Go.Proofs.YtbllaacbeagljaaGreatDoor
