/-
  Package disk: a disk's block; the checks.
-/
import Derived.Test.YtokgfnfgpjkpjaaSame
import Derived.Deep.QuietTactic
import Derived.BigQuiet
import Derived.LoopN
namespace Go.Proofs.Ytokgfnfgpjkpjaa
open Go.RowKit

/-- a disk's own block -/
def Dkb (w : World) (p : Nat) (lv pv mv : Value) (fu : Int) (off : Bool) : Prop := w.heap[p]? = some (.cells #[lv, pv, mv, .int .i64 fu, .bool off] 76 (0, 0))
theorem Dkb.lt {w : World} {p : Nat} {lv pv mv : Value} {fu : Int} {off : Bool} (h : Dkb w p lv pv mv fu off) : p < w.heap.size := (Array.getElem?_eq_some_iff.1 h).1
theorem Dkb.cell {w : World} {p : Nat} {lv pv mv : Value} {fu : Int} {off : Bool} (h : Dkb w p lv pv mv fu off) (t : Nat) : w.cell? ⟨p, t, none⟩ = #[lv, pv, mv, .int .i64 fu, .bool off][t]? := by
  unfold Dkb at h
  simp [World.cell?, h]
theorem Dkb.frozen {w : World} {p : Nat} {lv pv mv : Value} {fu : Int} {off : Bool} (h : Dkb w p lv pv mv fu off) (t : Nat) : w.frozen? ⟨p, t, none⟩ = false := by
  unfold Dkb at h
  simp [World.frozen?, h]
theorem Dkb.of_block {w w' : World} {p : Nat} {lv pv mv : Value} {fu : Int} {off : Bool} (h : Dkb w p lv pv mv fu off) (hw : w'.heap[p]? = w.heap[p]?) : Dkb w' p lv pv mv fu off := hw.trans h
theorem Dkb.set {w : World} {p : Nat} {lv pv mv : Value} {fu : Int} {off : Bool} (h : Dkb w p lv pv mv fu off) (t : Nat) (v : Value) : (w.setCell ⟨p, t, none⟩ v).heap[p]? = some (.cells (#[lv, pv, mv, .int .i64 fu, .bool off].setIfInBounds t v) 76 (0, 0)) := by
  unfold Dkb at h
  simp only [World.setCell, Array.getElem?_modify]
  rw [h]
  simp
theorem Dkb.below {w w' : World} {p : Nat} {lv pv mv : Value} {fu : Int} {off : Bool} (h : Dkb w p lv pv mv fu off) (hb : Below w.heap.size w w') : Dkb w' p lv pv mv fu off := h.of_block (hb.block p h.lt)

theorem below_drewN {B : Nat} {a w : World} (h : Below B a w) (q : Nat) : Below B a (w.drewN q) := ⟨h.os, h.tape, h.output, h.size, h.block⟩

theorem powerIsOn_any {w : World} {p : Nat} {lv pv mv : Value} {fu : Int} {off : Bool} (h : Dkb w p lv pv mv fu off) :
    Calls Try.prog 32 #[.pointer (some ⟨p, 0, none⟩)] w fun e w' => e = .returned (.int .i64 (if off then 24 else 0)) ∧ w' = w := by
  have q4 := h.cell 4
  simp only [List.getElem?_toArray, List.getElem?_cons_succ, List.getElem?_cons_zero] at q4
  go_enter Try.func32, Try.ntmps32
  cases off <;> go_wp2 <;> go_ret <;> exact ⟨rfl, rfl⟩

theorem count_any {w : World} {p : Nat} {a : Option Addr} {nb c : Nat} {pv mv : Value} {fu : Int} {off : Bool} (hn : nb ≤ 524288) (h : Dkb w p (.slice a (512 * nb) c) pv mv fu off) :
    Calls Try.prog 49 #[.pointer (some ⟨p, 0, none⟩)] w fun e w' => e = .returned (.int .i64 (nb : Int)) ∧ w' = w := by
  have q0 := h.cell 0
  simp only [List.getElem?_toArray, List.getElem?_cons_zero] at q0
  have e1 : ((512 * nb : Nat) : Int).tdiv 512 = (nb : Int) := by
    rw [Int.tdiv_eq_ediv_of_nonneg (by omega)]; omega
  go_enter Try.func49, Try.ntmps49
  go_wp2
  go_ret
  exact ⟨rfl, rfl⟩

theorem goesThrough_none {w : World} {p : Nat} {lv pv mv : Value} {off : Bool} (h : Dkb w p lv pv mv (-1) off) :
    Calls Try.prog 45 #[.pointer (some ⟨p, 0, none⟩)] w fun e w' => e = .returned (.int .i64 0) ∧ w' = w := by
  have q3 := h.cell 3
  simp only [List.getElem?_toArray, List.getElem?_cons_succ, List.getElem?_cons_zero] at q3
  go_enter Try.func45, Try.ntmps45
  go_wp2
  go_ret
  exact ⟨rfl, rfl⟩
theorem goesThrough_zero {w : World} {p : Nat} {lv pv mv : Value} {off : Bool} (h : Dkb w p lv pv mv 0 off) :
    Calls Try.prog 45 #[.pointer (some ⟨p, 0, none⟩)] w fun e w' => e = .returned (.int .i64 24) ∧ w' = w.setCell ⟨p, 4, none⟩ (.bool true) := by
  have q3 := h.cell 3
  have q4 := h.cell 4
  have f4 := h.frozen 4
  simp only [List.getElem?_toArray, List.getElem?_cons_succ, List.getElem?_cons_zero] at q3 q4
  go_enter Try.func45, Try.ntmps45
  go_wp2
  go_ret
  exact ⟨rfl, rfl⟩
theorem goesThrough_some {w : World} {p : Nat} {lv pv mv : Value} {fu : Int} {off : Bool} (h0 : 0 < fu) (h1 : fu ≤ 9223372036854775807) (h : Dkb w p lv pv mv fu off) :
    Calls Try.prog 45 #[.pointer (some ⟨p, 0, none⟩)] w fun e w' => e = .returned (.int .i64 0) ∧ w' = w.setCell ⟨p, 3, none⟩ (.int .i64 (fu - 1)) := by
  have q3 := h.cell 3
  have f3 := h.frozen 3
  simp only [List.getElem?_toArray, List.getElem?_cons_succ, List.getElem?_cons_zero] at q3
  have n1 : ¬ fu = -1 := by omega
  have n2 : ¬ fu = 0 := by omega
  go_enter Try.func45, Try.ntmps45
  go_wp2
  go_ret
  exact ⟨rfl, rfl⟩

theorem isThere_any (x : Int) (w : World) : Calls Try.prog 40 #[.int .i64 x] w fun e w' => e = .returned (.func (.func 48) #[] #[.pointer (some ⟨w.heap.size, 0, none⟩)]) ∧ w' = w.alloc (.cells #[.int .i64 x] 3) := by
  go_enter Try.func40, Try.ntmps40
  go_wp2
  go_ret
  exact ⟨rfl, rfl⟩
theorem isFuse_any (x : Int) (w : World) : Calls Try.prog 33 #[.int .i64 x] w fun e w' => e = .returned (.func (.func 46) #[] #[.pointer (some ⟨w.heap.size, 0, none⟩)]) ∧ w' = w.alloc (.cells #[.int .i64 x] 3) := by
  go_enter Try.func33, Try.ntmps33
  go_wp2
  go_ret
  exact ⟨rfl, rfl⟩
theorem isOneBlock_any (a : Option Addr) (n c : Nat) (w : World) : Calls Try.prog 44 #[.slice a n c] w fun e w' => e = .returned (.func (.func 50) #[] #[.pointer (some ⟨w.heap.size, 0, none⟩)]) ∧ w' = w.alloc (.cells #[.slice a n c] 29) := by
  go_enter Try.func44, Try.ntmps44
  go_wp2
  go_ret
  exact ⟨rfl, rfl⟩
theorem isFuse1_any {w : World} {c : Nat} {x : Int} (pp : Value) (h : w.cell? ⟨c, 0, none⟩ = some (.int .i64 x)) :
    Calls Try.prog 46 #[pp, .pointer (some ⟨c, 0, none⟩)] w fun e w' => e = .returned (.int .i64 (if x < -1 then 25 else 0)) ∧ w' = w := by
  go_enter Try.func46, Try.ntmps46
  by_cases hx : x < -1
  · rw [if_pos hx]
    go_wp2
    go_ret
    exact ⟨rfl, rfl⟩
  · rw [if_neg hx]
    go_wp2
    go_ret
    exact ⟨rfl, rfl⟩
theorem isOneBlock1_any {w : World} {c : Nat} {a : Option Addr} {n cap : Nat} (pp : Value) (h : w.cell? ⟨c, 0, none⟩ = some (.slice a n cap)) :
    Calls Try.prog 50 #[pp, .pointer (some ⟨c, 0, none⟩)] w fun e w' => e = .returned (.int .i64 (if n ≠ 512 then 23 else 0)) ∧ w' = w := by
  go_enter Try.func50, Try.ntmps50
  by_cases hx : n = 512
  · subst hx
    rw [if_neg (fun h => h rfl)]
    go_wp2
    go_ret
    exact ⟨rfl, rfl⟩
  · have hx' : ¬ (n : Int) = 512 := by omega
    rw [if_pos hx]
    go_wp2
    go_ret
    exact ⟨rfl, rfl⟩
theorem isThere1_any {w : World} {p c : Nat} {x : Int} {a : Option Addr} {nb cap : Nat} {pv mv : Value} {fu : Int} {off : Bool} (hn : nb ≤ 524288) (h : w.cell? ⟨c, 0, none⟩ = some (.int .i64 x)) (hD : Dkb w p (.slice a (512 * nb) cap) pv mv fu off) :
    Calls Try.prog 48 #[.pointer (some ⟨p, 0, none⟩), .pointer (some ⟨c, 0, none⟩)] w fun e w' => e = .returned (.int .i64 (if x < 0 ∨ (nb : Int) ≤ x then 22 else 0)) ∧ Below w.heap.size w w' := by
  go_enter Try.func48, Try.ntmps48
  by_cases hx : x < 0
  · rw [if_pos (.inl hx)]
    go_wp2_with fail
    go_quiet (fail)
    go_wp2
    go_ret
    exact ⟨rfl, below_drewN (Below.refl _ _) _⟩
  · by_cases hx2 : (nb : Int) ≤ x
    · rw [if_pos (.inr hx2)]
      go_wp2_with fail
      go_quiet ((go_at_call 49; exact Calls.quiet_of_same (count_any hn hD)))
      go_wp2
      go_ret
      exact ⟨rfl, below_drewN (Below.refl _ _) _⟩
    · rw [if_neg (fun h => h.elim hx hx2)]
      go_wp2_with fail
      go_quiet ((go_at_call 49; exact Calls.quiet_of_same (count_any hn hD)))
      go_wp2
      go_ret
      exact ⟨rfl, below_drewN (Below.refl _ _) _⟩

/-- no checks -/
theorem ask_none {p : Nat} (w : World) : Calls Try.prog 31 #[.pointer (some ⟨p, 0, none⟩), .slice none 0 0] w fun e w' => e = .returned (.int .i64 0) ∧ w' = w := by
  go_enter Try.func31, Try.ntmps31
  go_wp2_with fail
  refine wp_loop_rounds 1 ?_
  rw [rounds_succ]
  go_wp2
  go_ret
  exact ⟨rfl, rfl⟩
theorem ask_nil (v : Value) (w : World) : Calls Try.prog 31 #[.pointer none, v] w fun e w' => e = .returned (.int .i64 1) ∧ w' = w := by
  go_enter Try.func31, Try.ntmps31
  go_wp2
  go_ret
  exact ⟨rfl, rfl⟩
/-- one check: the power -/
theorem ask_on {w : World} {p k : Nat} {lv pv mv : Value} {fu : Int} {off : Bool} (hD : Dkb w p lv pv mv fu off) (k0 : w.cell? ⟨k, 0, none⟩ = some (.func (.func 32) #[] #[])) :
    Calls Try.prog 31 #[.pointer (some ⟨p, 0, none⟩), .slice (some ⟨k, 0, none⟩) 1 1] w fun e w' => e = .returned (.int .i64 (if off then 24 else 0)) ∧ w' = w := by
  have H1 := hid (powerIsOn_any hD)
  clear hD
  go_enter Try.func31, Try.ntmps31
  cases off
  · simp only [Bool.false_eq_true, if_false] at H1 ⊢
    go_wp2_with fail
    refine wp_loop_rounds 2 ?_
    rw [rounds_succ]
    go_wp2_with fail
    refine Calls.mono H1.out ?_
    rintro e w1 ⟨rfl, rfl⟩
    go_wp2_with fail
    rw [rounds_succ]
    go_wp2
    go_ret
    exact ⟨rfl, rfl⟩
  · simp only [if_true] at H1 ⊢
    go_wp2_with fail
    refine wp_loop_rounds 2 ?_
    rw [rounds_succ]
    go_wp2_with fail
    refine Calls.mono H1.out ?_
    rintro e w1 ⟨rfl, rfl⟩
    go_wp2
    go_ret
    exact ⟨rfl, rfl⟩
end Go.Proofs.Ytokgfnfgpjkpjaa
