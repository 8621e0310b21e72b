/-
  Package disk: a disk's block; the checks.
-/
import Derived.Test.YtfadnmdmohabmaaPa
import Derived.Deep.QuietTactic
import Derived.BigQuiet
import Derived.LoopN
namespace Go.Proofs.Ytfadnmdmohabmaa
open Go.RowKit

/-- a disk's own block -/
def Dkb (w : World) (p : Nat) (lv pv mv : Value) (fu : Int) (off : Bool) : Prop := w.heap[p]? = some (.cells #[lv, pv, mv, .int .i64 fu, .bool off] 122 (0, 0))
theorem Dkb.lt {w : World} {p : Nat} {lv pv mv : Value} {fu : Int} {off : Bool} (h : Dkb w p lv pv mv fu off) : p < w.heap.size := (Array.getElem?_eq_some_iff.1 h).1
theorem Dkb.cell {w : World} {p : Nat} {lv pv mv : Value} {fu : Int} {off : Bool} (h : Dkb w p lv pv mv fu off) (t : Nat) : w.cell? ⟨p, t, none⟩ = #[lv, pv, mv, .int .i64 fu, .bool off][t]? := by
  unfold Dkb at h
  simp [World.cell?, h]
theorem Dkb.frozen {w : World} {p : Nat} {lv pv mv : Value} {fu : Int} {off : Bool} (h : Dkb w p lv pv mv fu off) (t : Nat) : w.frozen? ⟨p, t, none⟩ = false := by
  unfold Dkb at h
  simp [World.frozen?, h]
theorem Dkb.of_block {w w' : World} {p : Nat} {lv pv mv : Value} {fu : Int} {off : Bool} (h : Dkb w p lv pv mv fu off) (hw : w'.heap[p]? = w.heap[p]?) : Dkb w' p lv pv mv fu off := hw.trans h
theorem Dkb.set {w : World} {p : Nat} {lv pv mv : Value} {fu : Int} {off : Bool} (h : Dkb w p lv pv mv fu off) (t : Nat) (v : Value) : (w.setCell ⟨p, t, none⟩ v).heap[p]? = some (.cells (#[lv, pv, mv, .int .i64 fu, .bool off].setIfInBounds t v) 122 (0, 0)) := by
  unfold Dkb at h
  simp only [World.setCell, Array.getElem?_modify]
  rw [h]
  simp
theorem Dkb.below {w w' : World} {p : Nat} {lv pv mv : Value} {fu : Int} {off : Bool} (h : Dkb w p lv pv mv fu off) (hb : Below w.heap.size w w') : Dkb w' p lv pv mv fu off := h.of_block (hb.block p h.lt)

theorem below_drewN {B : Nat} {a w : World} (h : Below B a w) (q : Nat) : Below B a (w.drewN q) := ⟨h.os, h.tape, h.output, h.size, h.block⟩

theorem powerIsOn_any {w : World} {p : Nat} {lv pv mv : Value} {fu : Int} {off : Bool} (h : Dkb w p lv pv mv fu off) :
    Calls Try.prog 64 #[.pointer (some ⟨p, 0, none⟩)] w fun e w' => e = .returned (.int .i64 (if off then 24 else 0)) ∧ w' = w := by
  have q4 := h.cell 4
  simp only [List.getElem?_toArray, List.getElem?_cons_succ, List.getElem?_cons_zero] at q4
  go_enter Try.func64, Try.ntmps64
  cases off <;> go_wp2 <;> go_ret <;> exact ⟨rfl, rfl⟩

theorem count_any {w : World} {p : Nat} {a : Option Addr} {nb c : Nat} {pv mv : Value} {fu : Int} {off : Bool} (hn : nb ≤ 524288) (h : Dkb w p (.slice a (512 * nb) c) pv mv fu off) :
    Calls Try.prog 80 #[.pointer (some ⟨p, 0, none⟩)] w fun e w' => e = .returned (.int .i64 (nb : Int)) ∧ w' = w := by
  have q0 := h.cell 0
  simp only [List.getElem?_toArray, List.getElem?_cons_zero] at q0
  have e1 : ((512 * nb : Nat) : Int).tdiv 512 = (nb : Int) := by
    rw [Int.tdiv_eq_ediv_of_nonneg (by omega)]; omega
  go_enter Try.func80, Try.ntmps80
  go_wp2
  go_ret
  exact ⟨rfl, rfl⟩

theorem goesThrough_none {w : World} {p : Nat} {lv pv mv : Value} {off : Bool} (h : Dkb w p lv pv mv (-1) off) :
    Calls Try.prog 71 #[.pointer (some ⟨p, 0, none⟩)] w fun e w' => e = .returned (.int .i64 0) ∧ w' = w := by
  have q3 := h.cell 3
  simp only [List.getElem?_toArray, List.getElem?_cons_succ, List.getElem?_cons_zero] at q3
  go_enter Try.func71, Try.ntmps71
  go_wp2
  go_ret
  exact ⟨rfl, rfl⟩
theorem goesThrough_zero {w : World} {p : Nat} {lv pv mv : Value} {off : Bool} (h : Dkb w p lv pv mv 0 off) :
    Calls Try.prog 71 #[.pointer (some ⟨p, 0, none⟩)] w fun e w' => e = .returned (.int .i64 24) ∧ w' = w.setCell ⟨p, 4, none⟩ (.bool true) := by
  have q3 := h.cell 3
  have q4 := h.cell 4
  have f4 := h.frozen 4
  simp only [List.getElem?_toArray, List.getElem?_cons_succ, List.getElem?_cons_zero] at q3 q4
  go_enter Try.func71, Try.ntmps71
  go_wp2
  go_ret
  exact ⟨rfl, rfl⟩
theorem goesThrough_some {w : World} {p : Nat} {lv pv mv : Value} {fu : Int} {off : Bool} (h0 : 0 < fu) (h1 : fu ≤ 9223372036854775807) (h : Dkb w p lv pv mv fu off) :
    Calls Try.prog 71 #[.pointer (some ⟨p, 0, none⟩)] w fun e w' => e = .returned (.int .i64 0) ∧ w' = w.setCell ⟨p, 3, none⟩ (.int .i64 (fu - 1)) := by
  have q3 := h.cell 3
  have f3 := h.frozen 3
  simp only [List.getElem?_toArray, List.getElem?_cons_succ, List.getElem?_cons_zero] at q3
  have n1 : ¬ fu = -1 := by omega
  have n2 : ¬ fu = 0 := by omega
  go_enter Try.func71, Try.ntmps71
  go_wp2
  go_ret
  exact ⟨rfl, rfl⟩

theorem isThere_any (x : Int) (w : World) : Calls Try.prog 67 #[.int .i64 x] w fun e w' => e = .returned (.func (.func 85) #[] #[.pointer (some ⟨w.heap.size, 0, none⟩)]) ∧ w' = w.alloc (.cells #[.int .i64 x] 3) := by
  go_enter Try.func67, Try.ntmps67
  go_wp2
  go_ret
  exact ⟨rfl, rfl⟩
theorem isFuse_any (x : Int) (w : World) : Calls Try.prog 79 #[.int .i64 x] w fun e w' => e = .returned (.func (.func 91) #[] #[.pointer (some ⟨w.heap.size, 0, none⟩)]) ∧ w' = w.alloc (.cells #[.int .i64 x] 3) := by
  go_enter Try.func79, Try.ntmps79
  go_wp2
  go_ret
  exact ⟨rfl, rfl⟩
theorem isOneBlock_any (a : Option Addr) (n c : Nat) (w : World) : Calls Try.prog 70 #[.slice a n c] w fun e w' => e = .returned (.func (.func 86) #[] #[.pointer (some ⟨w.heap.size, 0, none⟩)]) ∧ w' = w.alloc (.cells #[.slice a n c] 34) := by
  go_enter Try.func70, Try.ntmps70
  go_wp2
  go_ret
  exact ⟨rfl, rfl⟩
theorem isFuse1_any {w : World} {c : Nat} {x : Int} (pp : Value) (h : w.cell? ⟨c, 0, none⟩ = some (.int .i64 x)) :
    Calls Try.prog 91 #[pp, .pointer (some ⟨c, 0, none⟩)] w fun e w' => e = .returned (.int .i64 (if x < -1 then 25 else 0)) ∧ w' = w := by
  go_enter Try.func91, Try.ntmps91
  by_cases hx : x < -1
  · rw [if_pos hx]
    go_wp2
    go_ret
    exact ⟨rfl, rfl⟩
  · rw [if_neg hx]
    go_wp2
    go_ret
    exact ⟨rfl, rfl⟩
theorem isOneBlock1_any {w : World} {c : Nat} {a : Option Addr} {n cap : Nat} (pp : Value) (h : w.cell? ⟨c, 0, none⟩ = some (.slice a n cap)) :
    Calls Try.prog 86 #[pp, .pointer (some ⟨c, 0, none⟩)] w fun e w' => e = .returned (.int .i64 (if n ≠ 512 then 23 else 0)) ∧ w' = w := by
  go_enter Try.func86, Try.ntmps86
  by_cases hx : n = 512
  · subst hx
    rw [if_neg (fun h => h rfl)]
    go_wp2
    go_ret
    exact ⟨rfl, rfl⟩
  · have hx' : ¬ (n : Int) = 512 := by omega
    rw [if_pos hx]
    go_wp2
    go_ret
    exact ⟨rfl, rfl⟩
theorem isThere1_any {w : World} {p c : Nat} {x : Int} {a : Option Addr} {nb cap : Nat} {pv mv : Value} {fu : Int} {off : Bool} (hn : nb ≤ 524288) (h : w.cell? ⟨c, 0, none⟩ = some (.int .i64 x)) (hD : Dkb w p (.slice a (512 * nb) cap) pv mv fu off) :
    Calls Try.prog 85 #[.pointer (some ⟨p, 0, none⟩), .pointer (some ⟨c, 0, none⟩)] w fun e w' => e = .returned (.int .i64 (if x < 0 ∨ (nb : Int) ≤ x then 22 else 0)) ∧ Below w.heap.size w w' := by
  go_enter Try.func85, Try.ntmps85
  by_cases hx : x < 0
  · rw [if_pos (.inl hx)]
    go_wp2_with fail
    go_quiet (fail)
    go_wp2
    go_ret
    exact ⟨rfl, below_drewN (Below.refl _ _) _⟩
  · by_cases hx2 : (nb : Int) ≤ x
    · rw [if_pos (.inr hx2)]
      go_wp2_with fail
      go_quiet ((go_at_call 80; exact Calls.quiet_of_same (count_any hn hD)))
      go_wp2
      go_ret
      exact ⟨rfl, below_drewN (Below.refl _ _) _⟩
    · rw [if_neg (fun h => h.elim hx hx2)]
      go_wp2_with fail
      go_quiet ((go_at_call 80; exact Calls.quiet_of_same (count_any hn hD)))
      go_wp2
      go_ret
      exact ⟨rfl, below_drewN (Below.refl _ _) _⟩

/-- no checks -/
theorem ask_none {p : Nat} (w : World) : Calls Try.prog 63 #[.pointer (some ⟨p, 0, none⟩), .slice none 0 0] w fun e w' => e = .returned (.int .i64 0) ∧ w' = w := by
  go_enter Try.func63, Try.ntmps63
  go_wp2_with fail
  refine wp_loop_rounds 1 ?_
  rw [rounds_succ]
  go_wp2
  go_ret
  exact ⟨rfl, rfl⟩
theorem ask_nil (v : Value) (w : World) : Calls Try.prog 63 #[.pointer none, v] w fun e w' => e = .returned (.int .i64 1) ∧ w' = w := by
  go_enter Try.func63, Try.ntmps63
  go_wp2
  go_ret
  exact ⟨rfl, rfl⟩
/-- one check: the power -/
theorem ask_on {w : World} {p k : Nat} {lv pv mv : Value} {fu : Int} {off : Bool} (hD : Dkb w p lv pv mv fu off) (k0 : w.cell? ⟨k, 0, none⟩ = some (.func (.func 64) #[] #[])) :
    Calls Try.prog 63 #[.pointer (some ⟨p, 0, none⟩), .slice (some ⟨k, 0, none⟩) 1 1] w fun e w' => e = .returned (.int .i64 (if off then 24 else 0)) ∧ w' = w := by
  have H1 := hid (powerIsOn_any hD)
  clear hD
  go_enter Try.func63, Try.ntmps63
  cases off
  · simp only [Bool.false_eq_true, if_false] at H1 ⊢
    go_wp2_with fail
    refine wp_loop_rounds 2 ?_
    rw [rounds_succ]
    go_wp2_with fail
    refine Calls.mono H1.out ?_
    rintro e w1 ⟨rfl, rfl⟩
    go_wp2_with fail
    rw [rounds_succ]
    go_wp2
    go_ret
    exact ⟨rfl, rfl⟩
  · simp only [if_true] at H1 ⊢
    go_wp2_with fail
    refine wp_loop_rounds 2 ?_
    rw [rounds_succ]
    go_wp2_with fail
    refine Calls.mono H1.out ?_
    rintro e w1 ⟨rfl, rfl⟩
    go_wp2
    go_ret
    exact ⟨rfl, rfl⟩
end Go.Proofs.Ytfadnmdmohabmaa

/-
  Package disk: the checks of a call, in their order.
-/
namespace Go.Proofs.Ytfadnmdmohabmaa
open Go.RowKit

set_option maxHeartbeats 2000000 in
/-- two checks: the power, and another -/
theorem ask_two {w : World} {p k f : Nat} {cap : Array Value} {code : Int} {lv pv mv : Value} {fu : Int} {off : Bool} {R : World → Prop} (hf : f = 85 ∨ f = 91 ∨ f = 71) (hD : Dkb w p lv pv mv fu off) (H : Calls Try.prog f (#[.pointer (some ⟨p, 0, none⟩)] ++ cap) w fun e w' => e = .returned (.int .i64 code) ∧ R w')
    (k0 : w.cell? ⟨k, 0, none⟩ = some (.func (.func 64) #[] #[])) (k1 : w.cell? ⟨k, 1, none⟩ = some (.func (.func f) #[] cap)) {Q : Ending → World → Prop} (q1 : off = true → Q (.returned (.int .i64 24)) w) (q2 : off = false → ∀ w', R w' → Q (.returned (.int .i64 code)) w') :
    Calls Try.prog 63 #[.pointer (some ⟨p, 0, none⟩), .slice (some ⟨k, 0, none⟩) 2 2] w Q := by
  have H1 := hid (powerIsOn_any hD)
  have H2 := hid H
  have Q1 := hid q1
  have Q2 := hid q2
  clear H hD q1 q2
  go_enter Try.func63, Try.ntmps63
  cases off
  · simp only [Bool.false_eq_true, if_false] at H1
    go_wp2_with fail
    refine wp_loop_rounds 3 ?_
    rw [rounds_succ]
    go_wp2_with fail
    refine Calls.mono H1.out ?_
    rintro e w1 ⟨rfl, rfl⟩
    go_wp2_with fail
    rw [rounds_succ]
    by_cases hz : code = 0
    · subst hz
      rcases hf with rfl | rfl | rfl
      all_goals
        go_wp2_with fail
        refine Calls.mono H2.out ?_
        rintro e w2 ⟨rfl, hb⟩
        have Hb := hid hb
        clear hb k0 k1
        go_wp2_with fail
        rw [rounds_succ]
        go_wp2
        exact Q2.out (by simp) _ Hb.out
    · rcases hf with rfl | rfl | rfl
      all_goals
        go_wp2_with fail
        refine Calls.mono H2.out ?_
        rintro e w2 ⟨rfl, hb⟩
        have Hb := hid hb
        clear hb k0 k1
        go_wp2
        exact Q2.out (by simp) _ Hb.out
  · simp only [if_true] at H1
    go_wp2_with fail
    refine wp_loop_rounds 3 ?_
    rw [rounds_succ]
    go_wp2_with fail
    refine Calls.mono H1.out ?_
    rintro e w1 ⟨rfl, rfl⟩
    go_wp2
    exact Q1.out (by simp)
set_option maxHeartbeats 2000000 in
/-- four checks: the power, the place, the data, the fuse -/
theorem ask_four {w : World} {p k c d n cd : Nat} {x : Int} {ad : Option Addr} {a : Option Addr} {nb cap : Nat} {code : Int} {pv mv : Value} {fu : Int} {off : Bool} {R : World → Prop} (hn : nb ≤ 524288) (hD : Dkb w p (.slice a (512 * nb) cap) pv mv fu off) (hc : w.cell? ⟨c, 0, none⟩ = some (.int .i64 x)) (hd : w.cell? ⟨d, 0, none⟩ = some (.slice ad n cd))
    (hk : k < w.heap.size) (hdl : d < w.heap.size) (H : ∀ w1, Below w.heap.size w w1 → Calls Try.prog 71 #[.pointer (some ⟨p, 0, none⟩)] w1 fun e w' => e = .returned (.int .i64 code) ∧ R w')
    (k0 : w.cell? ⟨k, 0, none⟩ = some (.func (.func 64) #[] #[])) (k1 : w.cell? ⟨k, 1, none⟩ = some (.func (.func 85) #[] #[.pointer (some ⟨c, 0, none⟩)])) (k2 : w.cell? ⟨k, 2, none⟩ = some (.func (.func 86) #[] #[.pointer (some ⟨d, 0, none⟩)])) (k3 : w.cell? ⟨k, 3, none⟩ = some (.func (.func 71) #[] #[]))
    {Q : Ending → World → Prop} (q1 : off = true → Q (.returned (.int .i64 24)) w) (q2 : off = false → (x < 0 ∨ (nb : Int) ≤ x) → ∀ w', Below w.heap.size w w' → Q (.returned (.int .i64 22)) w') (q3 : off = false → ¬ (x < 0 ∨ (nb : Int) ≤ x) → n ≠ 512 → ∀ w', Below w.heap.size w w' → Q (.returned (.int .i64 23)) w')
    (q4 : off = false → ¬ (x < 0 ∨ (nb : Int) ≤ x) → n = 512 → ∀ w', R w' → Q (.returned (.int .i64 code)) w') :
    Calls Try.prog 63 #[.pointer (some ⟨p, 0, none⟩), .slice (some ⟨k, 0, none⟩) 4 4] w Q := by
  have H1 := hid (powerIsOn_any hD)
  have H2 := hid (isThere1_any hn hc hD)
  have H4 := hid H
  have Hd := hid hd
  have HK := hid (And.intro k2 k3)
  have Q1 := hid q1
  have Q2 := hid q2
  have Q3 := hid q3
  have Q4 := hid q4
  clear H hD hc hd q1 q2 q3 q4
  go_enter Try.func63, Try.ntmps63
  cases off
  · simp only [Bool.false_eq_true, if_false] at H1
    go_wp2_with fail
    refine wp_loop_rounds 5 ?_
    rw [rounds_succ]
    go_wp2_with fail
    refine Calls.mono H1.out ?_
    rintro e w1 ⟨rfl, rfl⟩
    go_wp2_with fail
    rw [rounds_succ]
    by_cases hz : x < 0 ∨ (nb : Int) ≤ x
    · simp only [if_pos hz] at H2
      go_wp2_with fail
      refine Calls.mono H2.out ?_
      rintro e w2 ⟨rfl, hb⟩
      have Hb := hid hb
      clear hb k0 k1 k2 k3
      have Hz := hid hz
      clear hz
      go_wp2
      exact Q2.out (by simp) Hz.out _ Hb.out
    · simp only [if_neg hz] at H2
      go_wp2_with fail
      refine Calls.mono H2.out ?_
      rintro e w2 ⟨rfl, hb⟩
      have k2' := (hb.cell (p := ⟨k, 2, none⟩) hk).trans HK.out.1
      have k3' := (hb.cell (p := ⟨k, 3, none⟩) hk).trans HK.out.2
      have H3 := hid (isOneBlock1_any (.pointer (some ⟨p, 0, none⟩)) ((hb.cell (p := ⟨d, 0, none⟩) hdl).trans Hd.out))
      have Hb := hid hb
      have Hz := hid hz
      clear hb k0 k1 k2 k3 hz
      go_wp2_with fail
      rw [rounds_succ]
      by_cases h5 : n = 512
      · simp only [if_neg (fun h => h h5 : ¬ n ≠ 512)] at H3
        go_wp2_with fail
        refine Calls.mono H3.out ?_
        rintro e w3 ⟨rfl, rfl⟩
        have H5 := hid (H4.out w3 Hb.out)
        go_wp2_with fail
        rw [rounds_succ]
        by_cases h6 : code = 0
        · subst h6
          go_wp2_with fail
          refine Calls.mono H5.out ?_
          rintro e w4 ⟨rfl, hr⟩
          have Hr := hid hr
          clear hr k2' k3'
          go_wp2_with fail
          rw [rounds_succ]
          go_wp2
          exact Q4.out (by simp) Hz.out h5 _ Hr.out
        · go_wp2_with fail
          refine Calls.mono H5.out ?_
          rintro e w4 ⟨rfl, hr⟩
          have Hr := hid hr
          clear hr k2' k3'
          go_wp2
          exact Q4.out (by simp) Hz.out h5 _ Hr.out
      · simp only [if_pos (show n ≠ 512 from h5)] at H3
        go_wp2_with fail
        refine Calls.mono H3.out ?_
        rintro e w3 ⟨rfl, rfl⟩
        clear k2' k3'
        go_wp2
        exact Q3.out (by simp) Hz.out h5 _ Hb.out
  · simp only [if_true] at H1
    go_wp2_with fail
    refine wp_loop_rounds 5 ?_
    rw [rounds_succ]
    go_wp2_with fail
    refine Calls.mono H1.out ?_
    rintro e w1 ⟨rfl, rfl⟩
    go_wp2
    exact Q1.out (by simp)

end Go.Proofs.Ytfadnmdmohabmaa
