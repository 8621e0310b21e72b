/-
  Package disk: the checks of a call, in their order.
-/
import Derived.Test.YtokgfnfgpjkpjaaDk0
namespace Go.Proofs.Ytokgfnfgpjkpjaa
open Go.RowKit

set_option maxHeartbeats 2000000 in
/-- two checks: the power, and another -/
theorem ask_two {w : World} {p k f : Nat} {cap : Array Value} {code : Int} {lv pv mv : Value} {fu : Int} {off : Bool} {R : World → Prop} (hf : f = 48 ∨ f = 46 ∨ f = 45) (hD : Dkb w p lv pv mv fu off) (H : Calls Try.prog f (#[.pointer (some ⟨p, 0, none⟩)] ++ cap) w fun e w' => e = .returned (.int .i64 code) ∧ R w')
    (k0 : w.cell? ⟨k, 0, none⟩ = some (.func (.func 32) #[] #[])) (k1 : w.cell? ⟨k, 1, none⟩ = some (.func (.func f) #[] cap)) {Q : Ending → World → Prop} (q1 : off = true → Q (.returned (.int .i64 24)) w) (q2 : off = false → ∀ w', R w' → Q (.returned (.int .i64 code)) w') :
    Calls Try.prog 31 #[.pointer (some ⟨p, 0, none⟩), .slice (some ⟨k, 0, none⟩) 2 2] w Q := by
  have H1 := hid (powerIsOn_any hD)
  have H2 := hid H
  have Q1 := hid q1
  have Q2 := hid q2
  clear H hD q1 q2
  go_enter Try.func31, Try.ntmps31
  cases off
  · simp only [Bool.false_eq_true, if_false] at H1
    go_wp2_with fail
    refine wp_loop_rounds 3 ?_
    rw [rounds_succ]
    go_wp2_with fail
    refine Calls.mono H1.out ?_
    rintro e w1 ⟨rfl, rfl⟩
    go_wp2_with fail
    rw [rounds_succ]
    by_cases hz : code = 0
    · subst hz
      rcases hf with rfl | rfl | rfl
      all_goals
        go_wp2_with fail
        refine Calls.mono H2.out ?_
        rintro e w2 ⟨rfl, hb⟩
        have Hb := hid hb
        clear hb k0 k1
        go_wp2_with fail
        rw [rounds_succ]
        go_wp2
        exact Q2.out (by simp) _ Hb.out
    · rcases hf with rfl | rfl | rfl
      all_goals
        go_wp2_with fail
        refine Calls.mono H2.out ?_
        rintro e w2 ⟨rfl, hb⟩
        have Hb := hid hb
        clear hb k0 k1
        go_wp2
        exact Q2.out (by simp) _ Hb.out
  · simp only [if_true] at H1
    go_wp2_with fail
    refine wp_loop_rounds 3 ?_
    rw [rounds_succ]
    go_wp2_with fail
    refine Calls.mono H1.out ?_
    rintro e w1 ⟨rfl, rfl⟩
    go_wp2
    exact Q1.out (by simp)
set_option maxHeartbeats 2000000 in
/-- four checks: the power, the place, the data, the fuse -/
theorem ask_four {w : World} {p k c d n cd : Nat} {x : Int} {ad : Option Addr} {a : Option Addr} {nb cap : Nat} {code : Int} {pv mv : Value} {fu : Int} {off : Bool} {R : World → Prop} (hn : nb ≤ 524288) (hD : Dkb w p (.slice a (512 * nb) cap) pv mv fu off) (hc : w.cell? ⟨c, 0, none⟩ = some (.int .i64 x)) (hd : w.cell? ⟨d, 0, none⟩ = some (.slice ad n cd))
    (hk : k < w.heap.size) (hdl : d < w.heap.size) (H : ∀ w1, Below w.heap.size w w1 → Calls Try.prog 45 #[.pointer (some ⟨p, 0, none⟩)] w1 fun e w' => e = .returned (.int .i64 code) ∧ R w')
    (k0 : w.cell? ⟨k, 0, none⟩ = some (.func (.func 32) #[] #[])) (k1 : w.cell? ⟨k, 1, none⟩ = some (.func (.func 48) #[] #[.pointer (some ⟨c, 0, none⟩)])) (k2 : w.cell? ⟨k, 2, none⟩ = some (.func (.func 50) #[] #[.pointer (some ⟨d, 0, none⟩)])) (k3 : w.cell? ⟨k, 3, none⟩ = some (.func (.func 45) #[] #[]))
    {Q : Ending → World → Prop} (q1 : off = true → Q (.returned (.int .i64 24)) w) (q2 : off = false → (x < 0 ∨ (nb : Int) ≤ x) → ∀ w', Below w.heap.size w w' → Q (.returned (.int .i64 22)) w') (q3 : off = false → ¬ (x < 0 ∨ (nb : Int) ≤ x) → n ≠ 512 → ∀ w', Below w.heap.size w w' → Q (.returned (.int .i64 23)) w')
    (q4 : off = false → ¬ (x < 0 ∨ (nb : Int) ≤ x) → n = 512 → ∀ w', R w' → Q (.returned (.int .i64 code)) w') :
    Calls Try.prog 31 #[.pointer (some ⟨p, 0, none⟩), .slice (some ⟨k, 0, none⟩) 4 4] w Q := by
  have H1 := hid (powerIsOn_any hD)
  have H2 := hid (isThere1_any hn hc hD)
  have H4 := hid H
  have Hd := hid hd
  have HK := hid (And.intro k2 k3)
  have Q1 := hid q1
  have Q2 := hid q2
  have Q3 := hid q3
  have Q4 := hid q4
  clear H hD hc hd q1 q2 q3 q4
  go_enter Try.func31, Try.ntmps31
  cases off
  · simp only [Bool.false_eq_true, if_false] at H1
    go_wp2_with fail
    refine wp_loop_rounds 5 ?_
    rw [rounds_succ]
    go_wp2_with fail
    refine Calls.mono H1.out ?_
    rintro e w1 ⟨rfl, rfl⟩
    go_wp2_with fail
    rw [rounds_succ]
    by_cases hz : x < 0 ∨ (nb : Int) ≤ x
    · simp only [if_pos hz] at H2
      go_wp2_with fail
      refine Calls.mono H2.out ?_
      rintro e w2 ⟨rfl, hb⟩
      have Hb := hid hb
      clear hb k0 k1 k2 k3
      have Hz := hid hz
      clear hz
      go_wp2
      exact Q2.out (by simp) Hz.out _ Hb.out
    · simp only [if_neg hz] at H2
      go_wp2_with fail
      refine Calls.mono H2.out ?_
      rintro e w2 ⟨rfl, hb⟩
      have k2' := (hb.cell (p := ⟨k, 2, none⟩) hk).trans HK.out.1
      have k3' := (hb.cell (p := ⟨k, 3, none⟩) hk).trans HK.out.2
      have H3 := hid (isOneBlock1_any (.pointer (some ⟨p, 0, none⟩)) ((hb.cell (p := ⟨d, 0, none⟩) hdl).trans Hd.out))
      have Hb := hid hb
      have Hz := hid hz
      clear hb k0 k1 k2 k3 hz
      go_wp2_with fail
      rw [rounds_succ]
      by_cases h5 : n = 512
      · simp only [if_neg (fun h => h h5 : ¬ n ≠ 512)] at H3
        go_wp2_with fail
        refine Calls.mono H3.out ?_
        rintro e w3 ⟨rfl, rfl⟩
        have H5 := hid (H4.out w3 Hb.out)
        go_wp2_with fail
        rw [rounds_succ]
        by_cases h6 : code = 0
        · subst h6
          go_wp2_with fail
          refine Calls.mono H5.out ?_
          rintro e w4 ⟨rfl, hr⟩
          have Hr := hid hr
          clear hr k2' k3'
          go_wp2_with fail
          rw [rounds_succ]
          go_wp2
          exact Q4.out (by simp) Hz.out h5 _ Hr.out
        · go_wp2_with fail
          refine Calls.mono H5.out ?_
          rintro e w4 ⟨rfl, hr⟩
          have Hr := hid hr
          clear hr k2' k3'
          go_wp2
          exact Q4.out (by simp) Hz.out h5 _ Hr.out
      · simp only [if_pos (show n ≠ 512 from h5)] at H3
        go_wp2_with fail
        refine Calls.mono H3.out ?_
        rintro e w3 ⟨rfl, rfl⟩
        clear k2' k3'
        go_wp2
        exact Q3.out (by simp) Hz.out h5 _ Hb.out
  · simp only [if_true] at H1
    go_wp2_with fail
    refine wp_loop_rounds 5 ?_
    rw [rounds_succ]
    go_wp2_with fail
    refine Calls.mono H1.out ?_
    rintro e w1 ⟨rfl, rfl⟩
    go_wp2
    exact Q1.out (by simp)

end Go.Proofs.Ytokgfnfgpjkpjaa
