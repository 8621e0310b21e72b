/-
  The document's: skip, word, has, plain.
-/
import Derived.Test.YtoifmiloaefanaaSc9
namespace Go.Proofs.Ytoifmiloaefanaa
open Go.RowKit

set_option maxRecDepth 100000 in
set_option maxHeartbeats 2000000 in
theorem rskip_any (b off n c : Nat) (zs : List Int) (k : Nat) (w : World) (hn : n ≤ 16777216) (hz : zs.length = n) (hk : k ≤ n) (hc : ∀ j, j < n → w.cell? ⟨b, off + j, none⟩ = some (.int .u8 (zs.getD j 0))) :
    Calls Try.prog 16 #[.slice (some ⟨b, off, none⟩) n c, .int .i64 (k : Int)] w fun e w' => e = .returned (.int .i64 (skA false zs k : Int)) ∧ w' = w := by
  have HC := hid hc
  clear hc
  go_enter Try.func16, Try.ntmps16
  go_wp2
  go_loop [1, 5] (fun kv cv => ∃ (j : Nat) (cm : Bool), kv = .int .i64 (j : Int) ∧ cv = .bool cm ∧ j ≤ n ∧ skA cm zs j = skA false zs k) (fun kv _ => n - (intOf kv).toNat)
  case atStart => exact ⟨k, false, rfl, rfl, hk, rfl⟩
  case round =>
    obtain ⟨j, cm, rfl, rfl, hj, hs⟩ := hrel
    by_cases q : j < n
    · have hcj := HC.out j q
      have q' : (j : Int) < (n : Int) := by omega
      have hjl : j < zs.length := by omega
      obtain ⟨z, HZ⟩ : ∃ z, Hid (zs.getD j 0 = z) := ⟨_, rfl⟩
      rw [HZ.out] at hcj
      cases cm with
      | false =>
        by_cases hsh : z = 35
        · have HN : Hid (skA true zs (j + 1) = skA false zs k) := by
            rw [skA_step hjl (.inr (.inr (by rw [HZ.out]; exact hsh))), HZ.out, hsh] at hs
            exact hs
          have H25 := hid (rblank_any z w)
          rw [show isBl z = false by rw [hsh]; rfl] at H25
          subst hsh
          clear hs
          go_wp2_with (go_at_call 25; refine Calls.mono H25.out ?_; rintro e w1 ⟨rfl, rfl⟩)
          exact ⟨⟨j + 1, true, by rw [Int.natCast_add]; rfl, rfl, by omega, HN.out⟩, by simp [intOf]; omega⟩
        · cases hbl : isBl z with
          | true =>
            have hne : ¬ (z = 10 ∧ False) := fun h => h.2
            have HN : Hid (skA false zs (j + 1) = skA false zs k) := by
              rw [skA_blank hjl (by rw [HZ.out]; exact hbl)] at hs
              exact hs
            have H25 := hid (rblank_any z w)
            rw [hbl] at H25
            by_cases h10 : z = 10
            · clear hs hbl hne
              subst h10
              go_wp2_with (go_at_call 25; refine Calls.mono H25.out ?_; rintro e w1 ⟨rfl, rfl⟩)
              exact ⟨⟨j + 1, false, by rw [Int.natCast_add]; rfl, rfl, by omega, HN.out⟩, by simp [intOf]; omega⟩
            · clear hs hbl hne
              go_wp2_with (go_at_call 25; refine Calls.mono H25.out ?_; rintro e w1 ⟨rfl, rfl⟩)
              exact ⟨⟨j + 1, false, by rw [Int.natCast_add]; rfl, rfl, by omega, HN.out⟩, by simp [intOf]; omega⟩
          | false =>
            have HN : Hid (j = skA false zs k) := by
              rw [skA_stop hjl (by rw [HZ.out]; exact hbl) (by rw [HZ.out]; exact hsh)] at hs
              exact hs
            have H25 := hid (rblank_any z w)
            rw [hbl] at H25
            clear hs hbl
            go_wp2_with (go_at_call 25; refine Calls.mono H25.out ?_; rintro e w1 ⟨rfl, rfl⟩)
            go_ret
            exact ⟨by rw [← HN.out]; rfl, rfl⟩
      | true =>
        have HN : Hid (skA (if z = 10 then false else true) zs (j + 1) = skA false zs k) := by
          rw [skA_step hjl (.inl rfl), HZ.out, Bool.true_or] at hs
          exact hs
        clear hs
        by_cases h10 : z = 10
        · rw [if_pos h10] at HN
          subst h10
          go_wp2
          exact ⟨⟨j + 1, false, by rw [Int.natCast_add]; rfl, rfl, by omega, HN.out⟩, by simp [intOf]; omega⟩
        · rw [if_neg h10] at HN
          by_cases h35 : z = 35
          · subst h35
            go_wp2
            exact ⟨⟨j + 1, true, by rw [Int.natCast_add]; rfl, rfl, by omega, HN.out⟩, by simp [intOf]; omega⟩
          · go_wp2
            exact ⟨⟨j + 1, true, by rw [Int.natCast_add]; rfl, rfl, by omega, HN.out⟩, by simp [intOf]; omega⟩
    · have q' : ¬ (j : Int) < (n : Int) := by omega
      have HN : Hid (j = skA false zs k) := by
        rw [skA_end (by omega)] at hs
        exact hs
      clear hs
      go_wp2
      go_ret
      exact ⟨by rw [← HN.out]; rfl, rfl⟩

set_option maxRecDepth 100000 in
set_option maxHeartbeats 2000000 in
theorem rword_any (b off n c : Nat) (zs : List Int) (k : Nat) (w : World) (hn : n ≤ 16777216) (hz : zs.length = n) (hk : k < n) (hlt : isLet (zs.getD k 0) = true) (hc : ∀ j, j < n → w.cell? ⟨b, off + j, none⟩ = some (.int .u8 (zs.getD j 0))) :
    Calls Try.prog 27 #[.slice (some ⟨b, off, none⟩) n c, .int .i64 (k : Int)] w fun e w' => e = .returned (.int .i64 (pasA isWd zs k : Int)) ∧ w' = w := by
  have HC := hid hc
  have HLT := hid hlt
  clear hc hlt
  go_enter Try.func27, Try.ntmps27
  go_wp2
  go_loop [5] (fun kv => ∃ (j : Nat), kv = .int .i64 (j : Int) ∧ k ≤ j ∧ j ≤ n ∧ pasA isWd zs j = pasA isWd zs k) (fun kv => n - (intOf kv).toNat)
  case atStart => exact ⟨k, rfl, Nat.le_refl _, by omega, rfl⟩
  case round =>
    obtain ⟨j, rfl, hkj, hj, hs⟩ := hrel
    by_cases q : j < n
    · have hcj := HC.out j q
      have q' : (j : Int) < (n : Int) := by omega
      have hjl : j < zs.length := by omega
      obtain ⟨z, HZ⟩ : ∃ z, Hid (zs.getD j 0 = z) := ⟨_, rfl⟩
      rw [HZ.out] at hcj
      have H26 := hid (rletter_any z w)
      have H28 := hid (rdigit_any z w)
      cases hl1 : isLet z with
      | true =>
        have HN : Hid (pasA isWd zs (j + 1) = pasA isWd zs k) := by
          rw [pasA_step hjl (by rw [HZ.out]; unfold isWd; rw [hl1]; rfl)] at hs
          exact hs
        rw [hl1] at H26
        clear hs hl1
        go_wp2_with (go_at_call 26; refine Calls.mono H26.out ?_; rintro e w1 ⟨rfl, rfl⟩)
        exact ⟨⟨j + 1, by rw [Int.natCast_add]; rfl, by omega, by omega, HN.out⟩, by simp [intOf]; omega⟩
      | false =>
        have hkj' : k < j := by
          rcases Nat.lt_or_eq_of_le hkj with h | h
          · exact h
          · subst h; have := HLT.out; rw [HZ.out, hl1] at this; cases this
        have hkj2 : (k : Int) < (j : Int) := by omega
        rw [hl1] at H26
        cases hl2 : isDig z with
        | true =>
          have HN : Hid (pasA isWd zs (j + 1) = pasA isWd zs k) := by
            rw [pasA_step hjl (by rw [HZ.out]; unfold isWd; rw [hl2]; simp)] at hs
            exact hs
          rw [hl2] at H28
          clear hs hl1 hl2
          go_wp2_with (first | (go_at_call 26; with_reducible refine Calls.mono H26.out ?_; rintro e w1 ⟨rfl, rfl⟩) | (go_at_call 28; with_reducible refine Calls.mono H28.out ?_; rintro e w1 ⟨rfl, rfl⟩))
          exact ⟨⟨j + 1, by rw [Int.natCast_add]; rfl, by omega, by omega, HN.out⟩, by simp [intOf]; omega⟩
        | false =>
          have HN : Hid (j = pasA isWd zs k) := by
            rw [pasA_stop hjl (by rw [HZ.out]; unfold isWd; rw [hl1, hl2]; rfl)] at hs
            exact hs
          rw [hl2] at H28
          clear hs hl1 hl2
          go_wp2_with (first | (go_at_call 26; with_reducible refine Calls.mono H26.out ?_; rintro e w1 ⟨rfl, rfl⟩) | (go_at_call 28; with_reducible refine Calls.mono H28.out ?_; rintro e w1 ⟨rfl, rfl⟩))
          go_ret
          exact ⟨by rw [← HN.out]; rfl, rfl⟩
    · have q' : ¬ (j : Int) < (n : Int) := by omega
      have HN : Hid (j = pasA isWd zs k) := by
        rw [pasA_end (by omega)] at hs
        exact hs
      clear hs
      go_wp2
      go_ret
      exact ⟨by rw [← HN.out]; rfl, rfl⟩

end Go.Proofs.Ytoifmiloaefanaa
