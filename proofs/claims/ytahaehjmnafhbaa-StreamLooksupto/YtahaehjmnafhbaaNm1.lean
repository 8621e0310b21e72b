/-
  Names: the document's Named.
-/
import Derived.Test.YtahaehjmnafhbaaNm0
namespace Go.Proofs.Ytahaehjmnafhbaa
open Go.RowKit

/-- where a byte lies among the signs -/
theorem classes (z : Int) : (97 ≤ z ∧ z ≤ 122) ∨ z = 126 ∨ (48 ≤ z ∧ z ≤ 57) ∨ z = 46 ∨ z = 45 ∨ z = 95 ∨ z = 64 ∨ z < 45 ∨ z = 47 ∨ (57 < z ∧ z < 64) ∨ (64 < z ∧ z < 95) ∨ z = 96 ∨ (122 < z ∧ z < 126) ∨ 126 < z := by omega

theorem isLow_iff (z : Int) : isLow z = true ↔ (97 ≤ z ∧ z ≤ 122) ∨ z = 126 := by unfold isLow; simp
theorem isSign_iff (z : Int) : isSign z = true ↔ ((97 ≤ z ∧ z ≤ 122) ∨ z = 126) ∨ (48 ≤ z ∧ z ≤ 57) ∨ z = 46 ∨ z = 45 ∨ z = 95 ∨ z = 64 := by
  unfold isSign
  rw [Bool.or_eq_true, isLow_iff]
  simp only [Bool.or_eq_true, Bool.and_eq_true, decide_eq_true_eq, or_assoc]
theorem low_no {z : Int} (h : ¬ ((97 ≤ z ∧ z ≤ 122) ∨ z = 126)) : isLow z = false := by rw [Bool.eq_false_iff]; exact fun q => h ((isLow_iff z).1 q)
theorem sign_no {z : Int} (h : ¬ (((97 ≤ z ∧ z ≤ 122) ∨ z = 126) ∨ (48 ≤ z ∧ z ≤ 57) ∨ z = 46 ∨ z = 45 ∨ z = 95 ∨ z = 64)) : isSign z = false := by rw [Bool.eq_false_iff]; exact fun q => h ((isSign_iff z).1 q)
theorem nmd_first {l : List Int} (h : isLow (l.getD 0 0) = false) : nmd l = false := by unfold nmd; rw [h]; simp
theorem nmd_len {l : List Int} (h : l.length < 1 ∨ 31 < l.length) : nmd l = false := by
  unfold nmd
  rcases h with h | h
  · simp [show ¬ 1 ≤ l.length from by omega]
  · simp [show ¬ l.length ≤ 31 from by omega]
theorem nmd_yes {l : List Int} (h1 : 1 ≤ l.length) (h2 : l.length ≤ 31) (h3 : isLow (l.getD 0 0) = true) (h4 : ∀ i, i < l.length → isSign (l.getD i 0) = true) : nmd l = true := by
  have ha : l.all isSign = true := by
    rw [List.all_eq_true]
    intro x hx
    obtain ⟨i, hi, rfl⟩ := List.getElem_of_mem hx
    have := h4 i hi
    rw [List.getD_eq_getElem?_getD, List.getElem?_eq_getElem hi] at this
    exact this
  unfold nmd
  rw [ha, h3]
  simp
  omega

set_option maxRecDepth 100000 in
set_option maxHeartbeats 4000000 in
theorem Named_any (l : List Int) (hb : Pl.isB l) (hl : l.length ≤ 16777216) (w : World) : Calls Try.prog 31 #[.string (strOfNums l)] w fun e w' => e = .returned (.bool (nmd l)) ∧ w' = w := by
  have hsz := str_size l
  have HX := hid (fun i hi h => str_get l hb i hi h)
  generalize hS : strOfNums l = S at *
  clear hS
  clear hb
  go_enter Try.func31, Try.ntmps31
  go_wp2_with fail
  go_loop [3] (fun i => ∃ k : Nat, k ≤ l.length ∧ i = .int .i64 (k : Int) ∧ (∀ j, j < k → isSign (l.getD j 0) = true) ∧ (0 < k → isLow (l.getD 0 0) = true)) (fun i => l.length - (intOf i).toNat)
  case atStart => exact ⟨0, Nat.zero_le _, rfl, fun j hj => by omega, fun h => by omega⟩
  case round =>
    obtain ⟨k, hk, rfl, hall, hlow⟩ := hrel
    by_cases hkn : k < l.length
    · have hix := HX.out k hkn (by omega)
      generalize hzz : l.getD k 0 = z at *
      have HZ := hid hzz
      have HA := hid hall
      have HL := hid hlow
      have HIX := hid hix
      clear hzz hall hlow hix
      have hnext : isSign z = true → (0 < k ∨ isLow z = true) → (∀ j, j < k + 1 → isSign (l.getD j 0) = true) ∧ (0 < k + 1 → isLow (l.getD 0 0) = true) := by
        intro h1 h2
        refine ⟨fun j hj => ?_, fun _ => ?_⟩
        · by_cases hjk : j < k
          · exact HA.out j hjk
          · obtain rfl : j = k := by omega
            rw [HZ.out]; exact h1
        · rcases Nat.eq_zero_or_pos k with rfl | q
          · rw [HZ.out]; exact h2.resolve_left (by omega)
          · exact HL.out q
      have HN := hid hnext
      have hno : isSign z = false ∨ (k = 0 ∧ isLow z = false) → nmd l = false := by
        rintro (h | ⟨rfl, h⟩)
        · exact nmd_no hkn (by rw [HZ.out]; exact h)
        · exact nmd_first (by rw [HZ.out]; exact h)
      have HO := hid hno
      clear hnext hno HZ HA HL
      rcases classes z with c | c | c | c | c | c | c | c | c | c | c | c | c | c
      · have s1 := hid ((isSign_iff z).2 (by omega))
        have s2 := hid ((isLow_iff z).2 (by omega))
        have hix := HIX.out
        clear HIX
        have d1 : 97 ≤ z := by omega
        have d2 : z ≤ 122 := by omega
        have d3 : 48 ≤ z := by omega
        have d4 : ¬ z ≤ 57 := by omega
        have d5 : (z == 126) = false := by simp; omega
        have d6 : (z == 46) = false := by simp; omega
        have d7 : (z == 45) = false := by simp; omega
        have d8 : (z == 95) = false := by simp; omega
        have d9 : (z == 64) = false := by simp; omega
        go_wp2
        go_round
        case rel => exact ⟨k + 1, by omega, by go_num, HN.out s1.out (.inr s2.out)⟩
        case measure => simp [intOf]; omega
      · have s1 := hid ((isSign_iff z).2 (by omega))
        have s2 := hid ((isLow_iff z).2 (by omega))
        have hix := HIX.out
        clear HIX
        subst c
        go_wp2
        go_round
        case rel => exact ⟨k + 1, by omega, by go_num, HN.out s1.out (.inr s2.out)⟩
        case measure => simp [intOf]; omega
      · have s1 := hid ((isSign_iff z).2 (by omega))
        have s2 := hid (low_no (z := z) (by omega))
        have hix := HIX.out
        clear HIX
        by_cases k0 : k = 0
        · have e := HO.out (.inr ⟨k0, s2.out⟩)
          have d1 : ¬ 97 ≤ z := by omega
          have d2 : z ≤ 122 := by omega
          have d3 : 48 ≤ z := by omega
          have d4 : z ≤ 57 := by omega
          have d5 : (z == 126) = false := by simp; omega
          have d6 : (z == 46) = false := by simp; omega
          have d7 : (z == 45) = false := by simp; omega
          have d8 : (z == 95) = false := by simp; omega
          have d9 : (z == 64) = false := by simp; omega
          subst k0
          go_wp2
          go_ret
          exact ⟨by first | rfl | (rw [e]; rfl), rfl⟩
        · have k1 : ((k : Int) == 0) = false := by simp; omega
          have d1 : ¬ 97 ≤ z := by omega
          have d2 : z ≤ 122 := by omega
          have d3 : 48 ≤ z := by omega
          have d4 : z ≤ 57 := by omega
          have d5 : (z == 126) = false := by simp; omega
          have d6 : (z == 46) = false := by simp; omega
          have d7 : (z == 45) = false := by simp; omega
          have d8 : (z == 95) = false := by simp; omega
          have d9 : (z == 64) = false := by simp; omega
          go_wp2
          go_round
          case rel => exact ⟨k + 1, by omega, by go_num, HN.out s1.out (.inl (by omega))⟩
          case measure => simp [intOf]; omega
      · have s1 := hid ((isSign_iff z).2 (by omega))
        have s2 := hid (low_no (z := z) (by omega))
        have hix := HIX.out
        clear HIX
        by_cases k0 : k = 0
        · have e := HO.out (.inr ⟨k0, s2.out⟩)
          subst c
          subst k0
          go_wp2
          go_ret
          exact ⟨by first | rfl | (rw [e]; rfl), rfl⟩
        · have k1 : ((k : Int) == 0) = false := by simp; omega
          subst c
          go_wp2
          go_round
          case rel => exact ⟨k + 1, by omega, by go_num, HN.out s1.out (.inl (by omega))⟩
          case measure => simp [intOf]; omega
      · have s1 := hid ((isSign_iff z).2 (by omega))
        have s2 := hid (low_no (z := z) (by omega))
        have hix := HIX.out
        clear HIX
        by_cases k0 : k = 0
        · have e := HO.out (.inr ⟨k0, s2.out⟩)
          subst c
          subst k0
          go_wp2
          go_ret
          exact ⟨by first | rfl | (rw [e]; rfl), rfl⟩
        · have k1 : ((k : Int) == 0) = false := by simp; omega
          subst c
          go_wp2
          go_round
          case rel => exact ⟨k + 1, by omega, by go_num, HN.out s1.out (.inl (by omega))⟩
          case measure => simp [intOf]; omega
      · have s1 := hid ((isSign_iff z).2 (by omega))
        have s2 := hid (low_no (z := z) (by omega))
        have hix := HIX.out
        clear HIX
        by_cases k0 : k = 0
        · have e := HO.out (.inr ⟨k0, s2.out⟩)
          subst c
          subst k0
          go_wp2
          go_ret
          exact ⟨by first | rfl | (rw [e]; rfl), rfl⟩
        · have k1 : ((k : Int) == 0) = false := by simp; omega
          subst c
          go_wp2
          go_round
          case rel => exact ⟨k + 1, by omega, by go_num, HN.out s1.out (.inl (by omega))⟩
          case measure => simp [intOf]; omega
      · have s1 := hid ((isSign_iff z).2 (by omega))
        have s2 := hid (low_no (z := z) (by omega))
        have hix := HIX.out
        clear HIX
        by_cases k0 : k = 0
        · have e := HO.out (.inr ⟨k0, s2.out⟩)
          subst c
          subst k0
          go_wp2
          go_ret
          exact ⟨by first | rfl | (rw [e]; rfl), rfl⟩
        · have k1 : ((k : Int) == 0) = false := by simp; omega
          subst c
          go_wp2
          go_round
          case rel => exact ⟨k + 1, by omega, by go_num, HN.out s1.out (.inl (by omega))⟩
          case measure => simp [intOf]; omega
      · have e := HO.out (.inl (sign_no (z := z) (by omega)))
        have hix := HIX.out
        clear HIX
        have d1 : ¬ 97 ≤ z := by omega
        have d2 : z ≤ 122 := by omega
        have d3 : ¬ 48 ≤ z := by omega
        have d4 : z ≤ 57 := by omega
        have d5 : (z == 126) = false := by simp; omega
        have d6 : (z == 46) = false := by simp; omega
        have d7 : (z == 45) = false := by simp; omega
        have d8 : (z == 95) = false := by simp; omega
        have d9 : (z == 64) = false := by simp; omega
        go_wp2
        all_goals go_ret
        all_goals exact ⟨by first | rfl | (rw [e]; rfl), rfl⟩
      · have e := HO.out (.inl (sign_no (z := z) (by omega)))
        have hix := HIX.out
        clear HIX
        subst c
        go_wp2
        all_goals go_ret
        all_goals exact ⟨by first | rfl | (rw [e]; rfl), rfl⟩
      · have e := HO.out (.inl (sign_no (z := z) (by omega)))
        have hix := HIX.out
        clear HIX
        have d1 : ¬ 97 ≤ z := by omega
        have d2 : z ≤ 122 := by omega
        have d3 : 48 ≤ z := by omega
        have d4 : ¬ z ≤ 57 := by omega
        have d5 : (z == 126) = false := by simp; omega
        have d6 : (z == 46) = false := by simp; omega
        have d7 : (z == 45) = false := by simp; omega
        have d8 : (z == 95) = false := by simp; omega
        have d9 : (z == 64) = false := by simp; omega
        go_wp2
        all_goals go_ret
        all_goals exact ⟨by first | rfl | (rw [e]; rfl), rfl⟩
      · have e := HO.out (.inl (sign_no (z := z) (by omega)))
        have hix := HIX.out
        clear HIX
        have d1 : ¬ 97 ≤ z := by omega
        have d2 : z ≤ 122 := by omega
        have d3 : 48 ≤ z := by omega
        have d4 : ¬ z ≤ 57 := by omega
        have d5 : (z == 126) = false := by simp; omega
        have d6 : (z == 46) = false := by simp; omega
        have d7 : (z == 45) = false := by simp; omega
        have d8 : (z == 95) = false := by simp; omega
        have d9 : (z == 64) = false := by simp; omega
        go_wp2
        all_goals go_ret
        all_goals exact ⟨by first | rfl | (rw [e]; rfl), rfl⟩
      · have e := HO.out (.inl (sign_no (z := z) (by omega)))
        have hix := HIX.out
        clear HIX
        subst c
        go_wp2
        all_goals go_ret
        all_goals exact ⟨by first | rfl | (rw [e]; rfl), rfl⟩
      · have e := HO.out (.inl (sign_no (z := z) (by omega)))
        have hix := HIX.out
        clear HIX
        have d1 : 97 ≤ z := by omega
        have d2 : ¬ z ≤ 122 := by omega
        have d3 : 48 ≤ z := by omega
        have d4 : ¬ z ≤ 57 := by omega
        have d5 : (z == 126) = false := by simp; omega
        have d6 : (z == 46) = false := by simp; omega
        have d7 : (z == 45) = false := by simp; omega
        have d8 : (z == 95) = false := by simp; omega
        have d9 : (z == 64) = false := by simp; omega
        go_wp2
        all_goals go_ret
        all_goals exact ⟨by first | rfl | (rw [e]; rfl), rfl⟩
      · have e := HO.out (.inl (sign_no (z := z) (by omega)))
        have hix := HIX.out
        clear HIX
        have d1 : 97 ≤ z := by omega
        have d2 : ¬ z ≤ 122 := by omega
        have d3 : 48 ≤ z := by omega
        have d4 : ¬ z ≤ 57 := by omega
        have d5 : (z == 126) = false := by simp; omega
        have d6 : (z == 46) = false := by simp; omega
        have d7 : (z == 45) = false := by simp; omega
        have d8 : (z == 95) = false := by simp; omega
        have d9 : (z == 64) = false := by simp; omega
        go_wp2
        all_goals go_ret
        all_goals exact ⟨by first | rfl | (rw [e]; rfl), rfl⟩
    · by_cases q1 : l.length < 1
      · have e := nmd_len (l := l) (.inl q1)
        go_wp2
        go_ret
        exact ⟨by first | rfl | (rw [e]; rfl), rfl⟩
      by_cases q2 : 31 < l.length
      · have e := nmd_len (l := l) (.inr q2)
        have d : ¬ ((l.length : Int) ≤ 31) := by omega
        go_wp2
        go_ret
        exact ⟨by first | rfl | (rw [e]; rfl), rfl⟩
      · have e := nmd_yes (l := l) (by omega) (by omega) (hlow (by omega)) (fun i hi => hall i (by omega))
        have d : ((l.length : Int) ≤ 31) := by omega
        clear hall hlow
        go_wp2
        go_ret
        exact ⟨by first | rfl | (rw [e]; rfl), rfl⟩

end Go.Proofs.Ytahaehjmnafhbaa
