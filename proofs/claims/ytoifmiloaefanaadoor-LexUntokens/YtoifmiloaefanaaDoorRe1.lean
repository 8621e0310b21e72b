/-
  The document's: has, plain, number.
-/
import Derived.Test.YtoifmiloaefanaaDoorRe0
import Derived.Test.YtoifmiloaefanaaDoorLp0
namespace Go.Proofs.YtoifmiloaefanaaDoor
open Go.RowKit

def inL (l : List Int) (z : Int) : Bool := l.any (fun y => decide (y = z))
set_option maxRecDepth 100000 in
set_option maxHeartbeats 2000000 in
theorem rhas_any (l : List Int) (hb : Pl.isB l) (hl : l.length ≤ 1000) (z : Int) (w : World) : Calls Tryd.prog 36 #[.string (strOfNums l), .int .u8 z] w fun e w' => e = .returned (.bool (inL l z)) ∧ w' = w := by
  have hsz := str_size l
  have HG := hid (fun i hi h => str_get l hb i hi h)
  clear hb
  generalize strOfNums l = S at *
  go_enter Tryd.func36, Tryd.ntmps36
  go_wp2
  go_loop [5] (fun kv => ∃ (j : Nat), kv = .int .i64 (j : Int) ∧ j ≤ l.length ∧ inL l z = inL (l.drop j) z) (fun kv => l.length - (intOf kv).toNat)
  case atStart => exact ⟨0, rfl, by omega, rfl⟩
  case round =>
    obtain ⟨j, rfl, hj, hs⟩ := hrel
    by_cases q : j < l.length
    · have q' : (j : Int) < (l.length : Int) := by omega
      have hjS : j < S.size := by omega
      have hg := HG.out j q hjS
      obtain ⟨y, HY⟩ : ∃ y, Hid (l.getD j 0 = y) := ⟨_, rfl⟩
      rw [HY.out] at hg
      have hd : inL (l.drop j) z = (decide (y = z) || inL (l.drop (j + 1)) z) := by
        rw [drop_cons q, HY.out]
        rfl
      by_cases e : y = z
      · have HT : Hid (inL l z = true) := by
          show _ = _
          rw [hs, hd, decide_eq_true e]
          rfl
        have hbq : (y == z) = true := by simp [e]
        clear hs hd e
        go_wp2
        go_ret
        exact ⟨by rw [HT.out]; rfl, rfl⟩
      · have HT : Hid (inL l z = inL (l.drop (j + 1)) z) := by
          show _ = _
          rw [hs, hd, decide_eq_false e]
          rfl
        have hbq : (y == z) = false := by simpa using e
        clear hs hd e
        go_wp2
        exact ⟨⟨j + 1, by rw [Int.natCast_add]; rfl, by omega, HT.out⟩, by simp [intOf]; omega⟩
    · have q' : ¬ (j : Int) < (l.length : Int) := by omega
      have HT : Hid (inL l z = false) := by
        show _ = _
        rw [hs, List.drop_eq_nil_of_le (by omega)]
        rfl
      clear hs
      go_wp2
      go_ret
      exact ⟨by rw [HT.out]; rfl, rfl⟩

theorem qt_eq (z : Int) : inL [34, 36, 123, 125] z = isQt z := by
  unfold inL isQt
  simp only [List.any_cons, List.any_nil, Bool.or_false]
  rw [Bool.eq_iff_iff]
  simp
  omega
theorem mk_eq (z : Int) : inL [59, 123, 125, 40, 41, 44, 61, 60, 43, 45, 42, 47, 37] z = isMk z := by
  unfold inL isMk
  simp only [List.any_cons, List.any_nil, Bool.or_false]
  rw [Bool.eq_iff_iff]
  simp
  omega
theorem isB_qt : Pl.isB [34, 36, 123, 125] := by intro z hz; simp at hz; omega
theorem isB_mk : Pl.isB [59, 123, 125, 40, 41, 44, 61, 60, 43, 45, 42, 47, 37] := by intro z hz; simp at hz; omega

set_option maxRecDepth 100000 in
set_option maxHeartbeats 2000000 in
theorem rplain_any (z : Int) (w : World) : Calls Tryd.prog 47 #[.int .u8 z] w fun e w' => e = .returned (.bool (isPn z)) ∧ w' = w := by
  have H := hid (rhas_any [34, 36, 123, 125] isB_qt (by decide) z w)
  rw [qt_eq, show strOfNums [34, 36, 123, 125] = ⟨#[34, 36, 123, 125]⟩ from rfl] at H
  unfold isPn
  generalize isQt z = r at *
  by_cases h1 : 32 ≤ z <;> by_cases h2 : z ≤ 126 <;> cases r
  all_goals
    simp only [h1, h2, decide_true, decide_false]
    go_enter Tryd.func47, Tryd.ntmps47
    go_wp2_with (go_at_call 36; refine Calls.mono H.out ?_; rintro e w1 ⟨rfl, rfl⟩)
    go_ret
    exact ⟨rfl, rfl⟩

end Go.Proofs.YtoifmiloaefanaaDoor
