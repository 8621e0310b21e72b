import Derived.Test.YtldlejpacgphmaaGreatG24
namespace Go.Proofs.YtldlejpacgphmaaGreat
open Go.RowKit
set_option maxRecDepth 100000 in
set_option maxHeartbeats 4000000 in
theorem refAt_any {w : World} {g : Nat} {ha : Option Addr} {nb hc fr bl : Nat} {ta : Option Addr} {tn tc : Nat} (h : Lg w g ha nb hc fr bl ta tn tc) (hnb : nb ≤ 524288) (hfit : fr + bl ≤ nb) (at_ : Int) : Calls Tryz.prog 15 #[.pointer (some ⟨g, 0, none⟩), .int .i64 at_] w fun e w' => e = .returned (.int .i64 (homeC nb fr bl at_)) ∧ Below w.heap.size w w' := by
 have FIN : Hid (Below w.heap.size w w.drew) := (Below.refl _ _).drew
 have c0 := h.c0
 have c1 := h.c1
 have c2 := h.c2
 obtain ⟨code, hcode⟩ : ∃ code : Int, code = homeC nb fr bl at_ := ⟨_, rfl⟩
 rw [← hcode]
 unfold homeC at hcode
 have HCd := hid hcode
 clear hcode
 obtain ⟨L, hL⟩ : ∃ L, L = 512 * nb := ⟨_, rfl⟩
 have HD : Hid (∀ w' : World, (w'.cell? ⟨g, 0, none⟩ = some (.slice ha L hc) ∧ w'.cell? ⟨g, 1, none⟩ = some (.int .i64 (fr : Int)) ∧ w'.cell? ⟨g, 2, none⟩ = some (.int .i64 (bl : Int))) → Calls Tryz.prog 14 #[.pointer (some ⟨g, 0, none⟩)] w' fun e w'' => e = .returned (.int .i64 (nb : Int)) ∧ w'' = w') := fun w' hw => refDisk_cell (by rw [← hL]; exact hw.1) hnb
 rw [← hL] at c0
 clear h hL
 obtain ⟨to_, hto⟩ : ∃ to_ : Int, to_ = (fr : Int) + (bl : Int) := ⟨_, rfl⟩
 have hs1 : IntKind.i64.wrap ((fr : Int) + (bl : Int)) = to_ := by rw [hto, IntKind.wrap_i64]; omega
 have HTO := hid hto
 clear hto
 by_cases h1 : at_ < 0
 ·have hc2 := HCd.out
  rw [if_pos (.inl h1)] at hc2
  subst hc2
  have d1 : decide (at_ < 0) = true := decide_eq_true h1
  clear HCd h1 hnb hfit
  go_enter Tryz.func15, Tryz.ntmps15
  go_wp2_with fail
  refine wp_region_held_drew (S := fun w' => w'.cell? ⟨g, 0, none⟩ = some (.slice ha L hc) ∧ w'.cell? ⟨g, 1, none⟩ = some (.int .i64 (fr : Int)) ∧ w'.cell? ⟨g, 2, none⟩ = some (.int .i64 (bl : Int))) (by kernel_rfl) ⟨c0, c1, c2⟩ (fun hSS => ?_)
  apply tk 0 (some 5) (.move (.tmp 1)) 3 none rfl (by kernel_rfl) (fun _ _ _ h => h) (by rfl) hSS
  ·(intro a h; (try dsimp only at h); (try go_split_ands); go_simp; try with_reducible rfl)
  apply tk 1 (some 6) (.binOp .lss 3 (.tmp 5) (.const (.int .i64 0)) 3) 4 none rfl (by kernel_rfl) (fun _ _ _ h => h) (by rfl) hSS
  ·(intro a h; (try dsimp only at h); (try go_split_ands); go_simp; try with_reducible rfl)
  apply tk 2 (some 7) (.move (.tmp 6)) 4 none rfl (by kernel_rfl) (fun _ _ _ h => h) (by rfl) hSS
  ·(intro a h; (try dsimp only at h); (try go_split_ands); go_simp; try with_reducible rfl)
  refine sk 3 (some 8) (.move (.tmp 1)) 3 (some (2, false)) rfl (by kernel_rfl) (fun _ _ _ h => h) (by rfl) hSS ?_
  try simp only [Act.put, List.setIfInBounds_toArray, List.set_cons_zero, List.set_cons_succ]
  refine sk 4 (some 9) (.move (.tmp 0)) 40 (some (2, false)) rfl (by kernel_rfl) (fun _ _ _ h => h) (by rfl) hSS ?_
  refine sk 5 (some 10) (.call { callee := .value (.func 14), args := #[.tmp 9], argTypes := #[40] }) 3 (some (2, false)) rfl (by kernel_rfl) (fun _ _ _ h => h) (by rfl) hSS ?_
  refine sk 6 (some 11) (.binOp .geq 3 (.tmp 8) (.tmp 10) 3) 4 (some (2, false)) rfl (by kernel_rfl) (fun _ _ _ h => h) (by rfl) hSS ?_
  apply tk 7 (some 12) (.pick (.tmp 7) (.const (.bool true)) (.tmp 11)) 4 none rfl (by kernel_rfl) (fun _ _ _ h => h) (by rfl) hSS
  ·(intro a h; (try dsimp only at h); (try go_split_ands); go_simp; try with_reducible rfl)
  try simp only [Act.put, List.setIfInBounds_toArray, List.set_cons_zero, List.set_cons_succ]
  apply tk 8 (some 13) (.move (.tmp 12)) 4 none rfl (by kernel_rfl) (fun _ _ _ h => h) (by rfl) hSS
  ·(intro a h; (try dsimp only at h); (try go_split_ands); go_simp; try with_reducible rfl)
  refine sk 9 (some 14) (.move (.tmp 1)) 3 (some (8, false)) rfl (by kernel_rfl) (fun _ _ _ h => h) (by rfl) hSS ?_
  refine sk 10 (some 15) (.move (.tmp 0)) 40 (some (8, false)) rfl (by kernel_rfl) (fun _ _ _ h => h) (by rfl) hSS ?_
  refine sk 11 (some 16) (.nilCheck (.tmp 15)) 0 (some (8, false)) rfl (by kernel_rfl) (fun _ _ _ h => h) (by rfl) hSS ?_
  try simp only [Act.put, List.setIfInBounds_toArray, List.set_cons_zero, List.set_cons_succ]
  refine sk 12 (some 17) (.fieldAddr 48 (.tmp 16) 1) 0 (some (8, false)) rfl (by kernel_rfl) (fun _ _ _ h => h) (by rfl) hSS ?_
  refine sk 13 (some 18) (.load 3 (.tmp 17)) 3 (some (8, false)) rfl (by kernel_rfl) (fun _ _ _ h => h) (by rfl) hSS ?_
  refine sk 14 (some 19) (.binOp .geq 3 (.tmp 14) (.tmp 18) 3) 4 (some (8, false)) rfl (by kernel_rfl) (fun _ _ _ h => h) (by rfl) hSS ?_
  refine sk 15 (some 20) (.move (.tmp 19)) 4 (some (8, false)) rfl (by kernel_rfl) (fun _ _ _ h => h) (by rfl) hSS ?_
  try simp only [Act.put, List.setIfInBounds_toArray, List.set_cons_zero, List.set_cons_succ]
  refine sk 16 (some 21) (.move (.tmp 1)) 3 (some (15, true)) rfl (by kernel_rfl) (fun _ _ _ h => h) (by rfl) hSS ?_
  refine sk 17 (some 22) (.move (.tmp 0)) 40 (some (15, true)) rfl (by kernel_rfl) (fun _ _ _ h => h) (by rfl) hSS ?_
  refine sk 18 (some 23) (.nilCheck (.tmp 22)) 0 (some (15, true)) rfl (by kernel_rfl) (fun _ _ _ h => h) (by rfl) hSS ?_
  refine sk 19 (some 24) (.fieldAddr 48 (.tmp 23) 1) 0 (some (15, true)) rfl (by kernel_rfl) (fun _ _ _ h => h) (by rfl) hSS ?_
  try simp only [Act.put, List.setIfInBounds_toArray, List.set_cons_zero, List.set_cons_succ]
  refine sk 20 (some 25) (.load 3 (.tmp 24)) 3 (some (15, true)) rfl (by kernel_rfl) (fun _ _ _ h => h) (by rfl) hSS ?_
  refine sk 21 (some 26) (.move (.tmp 0)) 40 (some (15, true)) rfl (by kernel_rfl) (fun _ _ _ h => h) (by rfl) hSS ?_
  refine sk 22 (some 27) (.nilCheck (.tmp 26)) 0 (some (15, true)) rfl (by kernel_rfl) (fun _ _ _ h => h) (by rfl) hSS ?_
  refine sk 23 (some 28) (.fieldAddr 48 (.tmp 27) 2) 0 (some (15, true)) rfl (by kernel_rfl) (fun _ _ _ h => h) (by rfl) hSS ?_
  try simp only [Act.put, List.setIfInBounds_toArray, List.set_cons_zero, List.set_cons_succ]
  refine sk 24 (some 29) (.load 3 (.tmp 28)) 3 (some (15, true)) rfl (by kernel_rfl) (fun _ _ _ h => h) (by rfl) hSS ?_
  refine sk 25 (some 30) (.binOp .add 3 (.tmp 25) (.tmp 29) 3) 3 (some (15, true)) rfl (by kernel_rfl) (fun _ _ _ h => h) (by rfl) hSS ?_
  refine sk 26 (some 31) (.binOp .lss 3 (.tmp 21) (.tmp 30) 3) 4 (some (15, true)) rfl (by kernel_rfl) (fun _ _ _ h => h) (by rfl) hSS ?_
  refine sk 27 (some 32) (.pick (.tmp 20) (.tmp 31) (.const (.bool false))) 4 (some (8, false)) rfl (by kernel_rfl) (fun _ _ _ h => h) (by rfl) hSS ?_
  try simp only [Act.put, List.setIfInBounds_toArray, List.set_cons_zero, List.set_cons_succ]
  apply tk 28 (some 33) (.pick (.tmp 13) (.const (.bool true)) (.tmp 32)) 4 none rfl (by kernel_rfl) (fun _ _ _ h => h) (by rfl) hSS
  ·(intro a h; (try dsimp only at h); (try go_split_ands); go_simp; try with_reducible rfl)
  try simp only [Act.put, List.setIfInBounds_toArray, List.set_cons_zero, List.set_cons_succ]
  refine wpAnyH_done (by kernel_rfl) ?_ _
  go_wp2
  go_ret
  exact ⟨rfl, FIN.out⟩
 ·have d1 : decide (at_ < 0) = false := decide_eq_false h1
  by_cases h2 : (nb : Int) ≤ at_
  ·have hc2 := HCd.out
   rw [if_pos (.inr (.inl h2))] at hc2
   subst hc2
   have d2 : decide ((nb : Int) ≤ at_) = true := decide_eq_true h2
   clear HCd h1 h2 hnb hfit
   go_enter Tryz.func15, Tryz.ntmps15
   go_wp2_with fail
   refine wp_region_held_drew (S := fun w' => w'.cell? ⟨g, 0, none⟩ = some (.slice ha L hc) ∧ w'.cell? ⟨g, 1, none⟩ = some (.int .i64 (fr : Int)) ∧ w'.cell? ⟨g, 2, none⟩ = some (.int .i64 (bl : Int))) (by kernel_rfl) ⟨c0, c1, c2⟩ (fun hSS => ?_)
   apply tk 0 (some 5) (.move (.tmp 1)) 3 none rfl (by kernel_rfl) (fun _ _ _ h => h) (by rfl) hSS
   ·(intro a h; (try dsimp only at h); (try go_split_ands); go_simp; try with_reducible rfl)
   apply tk 1 (some 6) (.binOp .lss 3 (.tmp 5) (.const (.int .i64 0)) 3) 4 none rfl (by kernel_rfl) (fun _ _ _ h => h) (by rfl) hSS
   ·(intro a h; (try dsimp only at h); (try go_split_ands); go_simp; try with_reducible rfl)
   apply tk 2 (some 7) (.move (.tmp 6)) 4 none rfl (by kernel_rfl) (fun _ _ _ h => h) (by rfl) hSS
   ·(intro a h; (try dsimp only at h); (try go_split_ands); go_simp; try with_reducible rfl)
   apply tk 3 (some 8) (.move (.tmp 1)) 3 (some (2, false)) rfl (by kernel_rfl) (fun _ _ _ h => h) (by rfl) hSS
   ·(intro a h; (try dsimp only at h); (try go_split_ands); go_simp; try with_reducible rfl)
   try simp only [Act.put, List.setIfInBounds_toArray, List.set_cons_zero, List.set_cons_succ]
   apply tk 4 (some 9) (.move (.tmp 0)) 40 (some (2, false)) rfl (by kernel_rfl) (fun _ _ _ h => h) (by rfl) hSS
   ·(intro a h; (try dsimp only at h); (try go_split_ands); go_simp; try with_reducible rfl)
   try simp only [Act.put, List.setIfInBounds_toArray, List.set_cons_zero, List.set_cons_succ]
   refine wpAnyH_ready (rs := [5]) (by kernel_rfl) (by simp) (AllReadyH.cons (o := ({ dst := some 10, op := Op.call { callee := Callee.value (Operand.func 14), args := #[Operand.tmp 9], argTypes := #[40] }, type := 3, pos := _, after := _, guard := some (2, false) } : Oper)) rfl (fun K9 hK9 => ?_) AllReadyH.nil)
   go_simp
   go_at_call 14
   refine Calls.mono (HD.out _ hSS) ?_
   rintro e w2 ⟨rfl, hw2⟩
   rw [hw2]
   clear hw2
   refine hK9.out _ _ hSS (fun hSS => ?_)
   clear hK9 K9
   try simp only [Act.put, List.setIfInBounds_toArray, List.set_cons_zero, List.set_cons_succ]
   apply tk 6 (some 11) (.binOp .geq 3 (.tmp 8) (.tmp 10) 3) 4 (some (2, false)) rfl (by kernel_rfl) (fun _ _ _ h => h) (by rfl) hSS
   ·(intro a h; (try dsimp only at h); (try go_split_ands); go_simp; try with_reducible rfl)
   apply tk 7 (some 12) (.pick (.tmp 7) (.const (.bool true)) (.tmp 11)) 4 none rfl (by kernel_rfl) (fun _ _ _ h => h) (by rfl) hSS
   ·(intro a h; (try dsimp only at h); (try go_split_ands); go_simp; try with_reducible rfl)
   apply tk 8 (some 13) (.move (.tmp 12)) 4 none rfl (by kernel_rfl) (fun _ _ _ h => h) (by rfl) hSS
   ·(intro a h; (try dsimp only at h); (try go_split_ands); go_simp; try with_reducible rfl)
   refine sk 9 (some 14) (.move (.tmp 1)) 3 (some (8, false)) rfl (by kernel_rfl) (fun _ _ _ h => h) (by rfl) hSS ?_
   try simp only [Act.put, List.setIfInBounds_toArray, List.set_cons_zero, List.set_cons_succ]
   refine sk 10 (some 15) (.move (.tmp 0)) 40 (some (8, false)) rfl (by kernel_rfl) (fun _ _ _ h => h) (by rfl) hSS ?_
   refine sk 11 (some 16) (.nilCheck (.tmp 15)) 0 (some (8, false)) rfl (by kernel_rfl) (fun _ _ _ h => h) (by rfl) hSS ?_
   refine sk 12 (some 17) (.fieldAddr 48 (.tmp 16) 1) 0 (some (8, false)) rfl (by kernel_rfl) (fun _ _ _ h => h) (by rfl) hSS ?_
   refine sk 13 (some 18) (.load 3 (.tmp 17)) 3 (some (8, false)) rfl (by kernel_rfl) (fun _ _ _ h => h) (by rfl) hSS ?_
   try simp only [Act.put, List.setIfInBounds_toArray, List.set_cons_zero, List.set_cons_succ]
   refine sk 14 (some 19) (.binOp .geq 3 (.tmp 14) (.tmp 18) 3) 4 (some (8, false)) rfl (by kernel_rfl) (fun _ _ _ h => h) (by rfl) hSS ?_
   refine sk 15 (some 20) (.move (.tmp 19)) 4 (some (8, false)) rfl (by kernel_rfl) (fun _ _ _ h => h) (by rfl) hSS ?_
   refine sk 16 (some 21) (.move (.tmp 1)) 3 (some (15, true)) rfl (by kernel_rfl) (fun _ _ _ h => h) (by rfl) hSS ?_
   refine sk 17 (some 22) (.move (.tmp 0)) 40 (some (15, true)) rfl (by kernel_rfl) (fun _ _ _ h => h) (by rfl) hSS ?_
   try simp only [Act.put, List.setIfInBounds_toArray, List.set_cons_zero, List.set_cons_succ]
   refine sk 18 (some 23) (.nilCheck (.tmp 22)) 0 (some (15, true)) rfl (by kernel_rfl) (fun _ _ _ h => h) (by rfl) hSS ?_
   refine sk 19 (some 24) (.fieldAddr 48 (.tmp 23) 1) 0 (some (15, true)) rfl (by kernel_rfl) (fun _ _ _ h => h) (by rfl) hSS ?_
   refine sk 20 (some 25) (.load 3 (.tmp 24)) 3 (some (15, true)) rfl (by kernel_rfl) (fun _ _ _ h => h) (by rfl) hSS ?_
   refine sk 21 (some 26) (.move (.tmp 0)) 40 (some (15, true)) rfl (by kernel_rfl) (fun _ _ _ h => h) (by rfl) hSS ?_
   try simp only [Act.put, List.setIfInBounds_toArray, List.set_cons_zero, List.set_cons_succ]
   refine sk 22 (some 27) (.nilCheck (.tmp 26)) 0 (some (15, true)) rfl (by kernel_rfl) (fun _ _ _ h => h) (by rfl) hSS ?_
   refine sk 23 (some 28) (.fieldAddr 48 (.tmp 27) 2) 0 (some (15, true)) rfl (by kernel_rfl) (fun _ _ _ h => h) (by rfl) hSS ?_
   refine sk 24 (some 29) (.load 3 (.tmp 28)) 3 (some (15, true)) rfl (by kernel_rfl) (fun _ _ _ h => h) (by rfl) hSS ?_
   refine sk 25 (some 30) (.binOp .add 3 (.tmp 25) (.tmp 29) 3) 3 (some (15, true)) rfl (by kernel_rfl) (fun _ _ _ h => h) (by rfl) hSS ?_
   try simp only [Act.put, List.setIfInBounds_toArray, List.set_cons_zero, List.set_cons_succ]
   refine sk 26 (some 31) (.binOp .lss 3 (.tmp 21) (.tmp 30) 3) 4 (some (15, true)) rfl (by kernel_rfl) (fun _ _ _ h => h) (by rfl) hSS ?_
   refine sk 27 (some 32) (.pick (.tmp 20) (.tmp 31) (.const (.bool false))) 4 (some (8, false)) rfl (by kernel_rfl) (fun _ _ _ h => h) (by rfl) hSS ?_
   apply tk 28 (some 33) (.pick (.tmp 13) (.const (.bool true)) (.tmp 32)) 4 none rfl (by kernel_rfl) (fun _ _ _ h => h) (by rfl) hSS
   ·(intro a h; (try dsimp only at h); (try go_split_ands); go_simp; try with_reducible rfl)
   try simp only [Act.put, List.setIfInBounds_toArray, List.set_cons_zero, List.set_cons_succ]
   refine wpAnyH_done (by kernel_rfl) ?_ _
   go_wp2
   go_ret
   exact ⟨rfl, FIN.out⟩
  ·have d2 : decide ((nb : Int) ≤ at_) = false := decide_eq_false h2
   by_cases h3 : (fr : Int) ≤ at_
   ·have d3 : decide ((fr : Int) ≤ at_) = true := decide_eq_true h3
    by_cases h4 : at_ < to_
    ·have hc2 := HCd.out
     rw [if_pos (.inr (.inr ⟨h3, by rw [← HTO.out]; exact h4⟩))] at hc2
     subst hc2
     have d4 : decide (at_ < to_) = true := decide_eq_true h4
     clear HCd h1 h2 h3 h4 hnb hfit
     go_enter Tryz.func15, Tryz.ntmps15
     go_wp2_with fail
     refine wp_region_held_drew (S := fun w' => w'.cell? ⟨g, 0, none⟩ = some (.slice ha L hc) ∧ w'.cell? ⟨g, 1, none⟩ = some (.int .i64 (fr : Int)) ∧ w'.cell? ⟨g, 2, none⟩ = some (.int .i64 (bl : Int))) (by kernel_rfl) ⟨c0, c1, c2⟩ (fun hSS => ?_)
     apply tk 0 (some 5) (.move (.tmp 1)) 3 none rfl (by kernel_rfl) (fun _ _ _ h => h) (by rfl) hSS
     ·(intro a h; (try dsimp only at h); (try go_split_ands); go_simp; try with_reducible rfl)
     apply tk 1 (some 6) (.binOp .lss 3 (.tmp 5) (.const (.int .i64 0)) 3) 4 none rfl (by kernel_rfl) (fun _ _ _ h => h) (by rfl) hSS
     ·(intro a h; (try dsimp only at h); (try go_split_ands); go_simp; try with_reducible rfl)
     try simp only [Act.put, List.setIfInBounds_toArray, List.set_cons_zero, List.set_cons_succ]
     apply tk 2 (some 7) (.move (.tmp 6)) 4 none rfl (by kernel_rfl) (fun _ _ _ h => h) (by rfl) hSS
     ·(intro a h; (try dsimp only at h); (try go_split_ands); go_simp; try with_reducible rfl)
     apply tk 3 (some 8) (.move (.tmp 1)) 3 (some (2, false)) rfl (by kernel_rfl) (fun _ _ _ h => h) (by rfl) hSS
     ·(intro a h; (try dsimp only at h); (try go_split_ands); go_simp; try with_reducible rfl)
     apply tk 4 (some 9) (.move (.tmp 0)) 40 (some (2, false)) rfl (by kernel_rfl) (fun _ _ _ h => h) (by rfl) hSS
     ·(intro a h; (try dsimp only at h); (try go_split_ands); go_simp; try with_reducible rfl)
     try simp only [Act.put, List.setIfInBounds_toArray, List.set_cons_zero, List.set_cons_succ]
     refine wpAnyH_ready (rs := [5]) (by kernel_rfl) (by simp) (AllReadyH.cons (o := ({ dst := some 10, op := Op.call { callee := Callee.value (Operand.func 14), args := #[Operand.tmp 9], argTypes := #[40] }, type := 3, pos := _, after := _, guard := some (2, false) } : Oper)) rfl (fun K9 hK9 => ?_) AllReadyH.nil)
     go_simp
     go_at_call 14
     refine Calls.mono (HD.out _ hSS) ?_
     rintro e w2 ⟨rfl, hw2⟩
     rw [hw2]
     clear hw2
     refine hK9.out _ _ hSS (fun hSS => ?_)
     clear hK9 K9
     try simp only [Act.put, List.setIfInBounds_toArray, List.set_cons_zero, List.set_cons_succ]
     apply tk 6 (some 11) (.binOp .geq 3 (.tmp 8) (.tmp 10) 3) 4 (some (2, false)) rfl (by kernel_rfl) (fun _ _ _ h => h) (by rfl) hSS
     ·(intro a h; (try dsimp only at h); (try go_split_ands); go_simp; try with_reducible rfl)
     apply tk 7 (some 12) (.pick (.tmp 7) (.const (.bool true)) (.tmp 11)) 4 none rfl (by kernel_rfl) (fun _ _ _ h => h) (by rfl) hSS
     ·(intro a h; (try dsimp only at h); (try go_split_ands); go_simp; try with_reducible rfl)
     try simp only [Act.put, List.setIfInBounds_toArray, List.set_cons_zero, List.set_cons_succ]
     apply tk 8 (some 13) (.move (.tmp 12)) 4 none rfl (by kernel_rfl) (fun _ _ _ h => h) (by rfl) hSS
     ·(intro a h; (try dsimp only at h); (try go_split_ands); go_simp; try with_reducible rfl)
     apply tk 9 (some 14) (.move (.tmp 1)) 3 (some (8, false)) rfl (by kernel_rfl) (fun _ _ _ h => h) (by rfl) hSS
     ·(intro a h; (try dsimp only at h); (try go_split_ands); go_simp; try with_reducible rfl)
     apply tk 10 (some 15) (.move (.tmp 0)) 40 (some (8, false)) rfl (by kernel_rfl) (fun _ _ _ h => h) (by rfl) hSS
     ·(intro a h; (try dsimp only at h); (try go_split_ands); go_simp; try with_reducible rfl)
     apply tk 11 (some 16) (.nilCheck (.tmp 15)) 0 (some (8, false)) rfl (by kernel_rfl) (fun _ _ _ h => h) (by rfl) hSS
     ·(intro a h; (try dsimp only at h); (try go_split_ands); go_simp; try with_reducible rfl)
     try simp only [Act.put, List.setIfInBounds_toArray, List.set_cons_zero, List.set_cons_succ]
     apply tk 12 (some 17) (.fieldAddr 48 (.tmp 16) 1) 0 (some (8, false)) rfl (by kernel_rfl) (fun _ _ _ h => h) (by rfl) hSS
     ·(intro a h; (try dsimp only at h); (try go_split_ands); go_simp; try with_reducible rfl)
     apply tk 13 (some 18) (.load 3 (.tmp 17)) 3 (some (8, false)) rfl (by kernel_rfl) (fun _ _ _ h => h) (by rfl) hSS
     ·(intro a h; (try dsimp only at h); (try go_split_ands); go_simp; try with_reducible rfl)
     apply tk 14 (some 19) (.binOp .geq 3 (.tmp 14) (.tmp 18) 3) 4 (some (8, false)) rfl (by kernel_rfl) (fun _ _ _ h => h) (by rfl) hSS
     ·(intro a h; (try dsimp only at h); (try go_split_ands); go_simp; try with_reducible rfl)
     apply tk 15 (some 20) (.move (.tmp 19)) 4 (some (8, false)) rfl (by kernel_rfl) (fun _ _ _ h => h) (by rfl) hSS
     ·(intro a h; (try dsimp only at h); (try go_split_ands); go_simp; try with_reducible rfl)
     try simp only [Act.put, List.setIfInBounds_toArray, List.set_cons_zero, List.set_cons_succ]
     apply tk 16 (some 21) (.move (.tmp 1)) 3 (some (15, true)) rfl (by kernel_rfl) (fun _ _ _ h => h) (by rfl) hSS
     ·(intro a h; (try dsimp only at h); (try go_split_ands); go_simp; try with_reducible rfl)
     apply tk 17 (some 22) (.move (.tmp 0)) 40 (some (15, true)) rfl (by kernel_rfl) (fun _ _ _ h => h) (by rfl) hSS
     ·(intro a h; (try dsimp only at h); (try go_split_ands); go_simp; try with_reducible rfl)
     apply tk 18 (some 23) (.nilCheck (.tmp 22)) 0 (some (15, true)) rfl (by kernel_rfl) (fun _ _ _ h => h) (by rfl) hSS
     ·(intro a h; (try dsimp only at h); (try go_split_ands); go_simp; try with_reducible rfl)
     apply tk 19 (some 24) (.fieldAddr 48 (.tmp 23) 1) 0 (some (15, true)) rfl (by kernel_rfl) (fun _ _ _ h => h) (by rfl) hSS
     ·(intro a h; (try dsimp only at h); (try go_split_ands); go_simp; try with_reducible rfl)
     try simp only [Act.put, List.setIfInBounds_toArray, List.set_cons_zero, List.set_cons_succ]
     apply tk 20 (some 25) (.load 3 (.tmp 24)) 3 (some (15, true)) rfl (by kernel_rfl) (fun _ _ _ h => h) (by rfl) hSS
     ·(intro a h; (try dsimp only at h); (try go_split_ands); go_simp; try with_reducible rfl)
     apply tk 21 (some 26) (.move (.tmp 0)) 40 (some (15, true)) rfl (by kernel_rfl) (fun _ _ _ h => h) (by rfl) hSS
     ·(intro a h; (try dsimp only at h); (try go_split_ands); go_simp; try with_reducible rfl)
     apply tk 22 (some 27) (.nilCheck (.tmp 26)) 0 (some (15, true)) rfl (by kernel_rfl) (fun _ _ _ h => h) (by rfl) hSS
     ·(intro a h; (try dsimp only at h); (try go_split_ands); go_simp; try with_reducible rfl)
     apply tk 23 (some 28) (.fieldAddr 48 (.tmp 27) 2) 0 (some (15, true)) rfl (by kernel_rfl) (fun _ _ _ h => h) (by rfl) hSS
     ·(intro a h; (try dsimp only at h); (try go_split_ands); go_simp; try with_reducible rfl)
     try simp only [Act.put, List.setIfInBounds_toArray, List.set_cons_zero, List.set_cons_succ]
     apply tk 24 (some 29) (.load 3 (.tmp 28)) 3 (some (15, true)) rfl (by kernel_rfl) (fun _ _ _ h => h) (by rfl) hSS
     ·(intro a h; (try dsimp only at h); (try go_split_ands); go_simp; try with_reducible rfl)
     apply tk 25 (some 30) (.binOp .add 3 (.tmp 25) (.tmp 29) 3) 3 (some (15, true)) rfl (by kernel_rfl) (fun _ _ _ h => h) (by rfl) hSS
     ·(intro a h; (try dsimp only at h); (try go_split_ands); go_simp; try with_reducible rfl)
     apply tk 26 (some 31) (.binOp .lss 3 (.tmp 21) (.tmp 30) 3) 4 (some (15, true)) rfl (by kernel_rfl) (fun _ _ _ h => h) (by rfl) hSS
     ·(intro a h; (try dsimp only at h); (try go_split_ands); go_simp; try with_reducible rfl)
     apply tk 27 (some 32) (.pick (.tmp 20) (.tmp 31) (.const (.bool false))) 4 (some (8, false)) rfl (by kernel_rfl) (fun _ _ _ h => h) (by rfl) hSS
     ·(intro a h; (try dsimp only at h); (try go_split_ands); go_simp; try with_reducible rfl)
     try simp only [Act.put, List.setIfInBounds_toArray, List.set_cons_zero, List.set_cons_succ]
     apply tk 28 (some 33) (.pick (.tmp 13) (.const (.bool true)) (.tmp 32)) 4 none rfl (by kernel_rfl) (fun _ _ _ h => h) (by rfl) hSS
     ·(intro a h; (try dsimp only at h); (try go_split_ands); go_simp; try with_reducible rfl)
     try simp only [Act.put, List.setIfInBounds_toArray, List.set_cons_zero, List.set_cons_succ]
     refine wpAnyH_done (by kernel_rfl) ?_ _
     go_wp2
     go_ret
     exact ⟨rfl, FIN.out⟩
    ·have hc2 := HCd.out
     rw [if_neg (by rw [← HTO.out]; omega)] at hc2
     subst hc2
     have d4 : decide (at_ < to_) = false := decide_eq_false h4
     clear HCd h1 h2 h3 h4 hnb hfit
     go_enter Tryz.func15, Tryz.ntmps15
     go_wp2_with fail
     refine wp_region_held_drew (S := fun w' => w'.cell? ⟨g, 0, none⟩ = some (.slice ha L hc) ∧ w'.cell? ⟨g, 1, none⟩ = some (.int .i64 (fr : Int)) ∧ w'.cell? ⟨g, 2, none⟩ = some (.int .i64 (bl : Int))) (by kernel_rfl) ⟨c0, c1, c2⟩ (fun hSS => ?_)
     apply tk 0 (some 5) (.move (.tmp 1)) 3 none rfl (by kernel_rfl) (fun _ _ _ h => h) (by rfl) hSS
     ·(intro a h; (try dsimp only at h); (try go_split_ands); go_simp; try with_reducible rfl)
     apply tk 1 (some 6) (.binOp .lss 3 (.tmp 5) (.const (.int .i64 0)) 3) 4 none rfl (by kernel_rfl) (fun _ _ _ h => h) (by rfl) hSS
     ·(intro a h; (try dsimp only at h); (try go_split_ands); go_simp; try with_reducible rfl)
     apply tk 2 (some 7) (.move (.tmp 6)) 4 none rfl (by kernel_rfl) (fun _ _ _ h => h) (by rfl) hSS
     ·(intro a h; (try dsimp only at h); (try go_split_ands); go_simp; try with_reducible rfl)
     apply tk 3 (some 8) (.move (.tmp 1)) 3 (some (2, false)) rfl (by kernel_rfl) (fun _ _ _ h => h) (by rfl) hSS
     ·(intro a h; (try dsimp only at h); (try go_split_ands); go_simp; try with_reducible rfl)
     try simp only [Act.put, List.setIfInBounds_toArray, List.set_cons_zero, List.set_cons_succ]
     apply tk 4 (some 9) (.move (.tmp 0)) 40 (some (2, false)) rfl (by kernel_rfl) (fun _ _ _ h => h) (by rfl) hSS
     ·(intro a h; (try dsimp only at h); (try go_split_ands); go_simp; try with_reducible rfl)
     try simp only [Act.put, List.setIfInBounds_toArray, List.set_cons_zero, List.set_cons_succ]
     refine wpAnyH_ready (rs := [5]) (by kernel_rfl) (by simp) (AllReadyH.cons (o := ({ dst := some 10, op := Op.call { callee := Callee.value (Operand.func 14), args := #[Operand.tmp 9], argTypes := #[40] }, type := 3, pos := _, after := _, guard := some (2, false) } : Oper)) rfl (fun K9 hK9 => ?_) AllReadyH.nil)
     go_simp
     go_at_call 14
     refine Calls.mono (HD.out _ hSS) ?_
     rintro e w2 ⟨rfl, hw2⟩
     rw [hw2]
     clear hw2
     refine hK9.out _ _ hSS (fun hSS => ?_)
     clear hK9 K9
     try simp only [Act.put, List.setIfInBounds_toArray, List.set_cons_zero, List.set_cons_succ]
     apply tk 6 (some 11) (.binOp .geq 3 (.tmp 8) (.tmp 10) 3) 4 (some (2, false)) rfl (by kernel_rfl) (fun _ _ _ h => h) (by rfl) hSS
     ·(intro a h; (try dsimp only at h); (try go_split_ands); go_simp; try with_reducible rfl)
     apply tk 7 (some 12) (.pick (.tmp 7) (.const (.bool true)) (.tmp 11)) 4 none rfl (by kernel_rfl) (fun _ _ _ h => h) (by rfl) hSS
     ·(intro a h; (try dsimp only at h); (try go_split_ands); go_simp; try with_reducible rfl)
     apply tk 8 (some 13) (.move (.tmp 12)) 4 none rfl (by kernel_rfl) (fun _ _ _ h => h) (by rfl) hSS
     ·(intro a h; (try dsimp only at h); (try go_split_ands); go_simp; try with_reducible rfl)
     apply tk 9 (some 14) (.move (.tmp 1)) 3 (some (8, false)) rfl (by kernel_rfl) (fun _ _ _ h => h) (by rfl) hSS
     ·(intro a h; (try dsimp only at h); (try go_split_ands); go_simp; try with_reducible rfl)
     try simp only [Act.put, List.setIfInBounds_toArray, List.set_cons_zero, List.set_cons_succ]
     apply tk 10 (some 15) (.move (.tmp 0)) 40 (some (8, false)) rfl (by kernel_rfl) (fun _ _ _ h => h) (by rfl) hSS
     ·(intro a h; (try dsimp only at h); (try go_split_ands); go_simp; try with_reducible rfl)
     apply tk 11 (some 16) (.nilCheck (.tmp 15)) 0 (some (8, false)) rfl (by kernel_rfl) (fun _ _ _ h => h) (by rfl) hSS
     ·(intro a h; (try dsimp only at h); (try go_split_ands); go_simp; try with_reducible rfl)
     apply tk 12 (some 17) (.fieldAddr 48 (.tmp 16) 1) 0 (some (8, false)) rfl (by kernel_rfl) (fun _ _ _ h => h) (by rfl) hSS
     ·(intro a h; (try dsimp only at h); (try go_split_ands); go_simp; try with_reducible rfl)
     apply tk 13 (some 18) (.load 3 (.tmp 17)) 3 (some (8, false)) rfl (by kernel_rfl) (fun _ _ _ h => h) (by rfl) hSS
     ·(intro a h; (try dsimp only at h); (try go_split_ands); go_simp; try with_reducible rfl)
     try simp only [Act.put, List.setIfInBounds_toArray, List.set_cons_zero, List.set_cons_succ]
     apply tk 14 (some 19) (.binOp .geq 3 (.tmp 14) (.tmp 18) 3) 4 (some (8, false)) rfl (by kernel_rfl) (fun _ _ _ h => h) (by rfl) hSS
     ·(intro a h; (try dsimp only at h); (try go_split_ands); go_simp; try with_reducible rfl)
     apply tk 15 (some 20) (.move (.tmp 19)) 4 (some (8, false)) rfl (by kernel_rfl) (fun _ _ _ h => h) (by rfl) hSS
     ·(intro a h; (try dsimp only at h); (try go_split_ands); go_simp; try with_reducible rfl)
     apply tk 16 (some 21) (.move (.tmp 1)) 3 (some (15, true)) rfl (by kernel_rfl) (fun _ _ _ h => h) (by rfl) hSS
     ·(intro a h; (try dsimp only at h); (try go_split_ands); go_simp; try with_reducible rfl)
     apply tk 17 (some 22) (.move (.tmp 0)) 40 (some (15, true)) rfl (by kernel_rfl) (fun _ _ _ h => h) (by rfl) hSS
     ·(intro a h; (try dsimp only at h); (try go_split_ands); go_simp; try with_reducible rfl)
     try simp only [Act.put, List.setIfInBounds_toArray, List.set_cons_zero, List.set_cons_succ]
     apply tk 18 (some 23) (.nilCheck (.tmp 22)) 0 (some (15, true)) rfl (by kernel_rfl) (fun _ _ _ h => h) (by rfl) hSS
     ·(intro a h; (try dsimp only at h); (try go_split_ands); go_simp; try with_reducible rfl)
     apply tk 19 (some 24) (.fieldAddr 48 (.tmp 23) 1) 0 (some (15, true)) rfl (by kernel_rfl) (fun _ _ _ h => h) (by rfl) hSS
     ·(intro a h; (try dsimp only at h); (try go_split_ands); go_simp; try with_reducible rfl)
     apply tk 20 (some 25) (.load 3 (.tmp 24)) 3 (some (15, true)) rfl (by kernel_rfl) (fun _ _ _ h => h) (by rfl) hSS
     ·(intro a h; (try dsimp only at h); (try go_split_ands); go_simp; try with_reducible rfl)
     apply tk 21 (some 26) (.move (.tmp 0)) 40 (some (15, true)) rfl (by kernel_rfl) (fun _ _ _ h => h) (by rfl) hSS
     ·(intro a h; (try dsimp only at h); (try go_split_ands); go_simp; try with_reducible rfl)
     try simp only [Act.put, List.setIfInBounds_toArray, List.set_cons_zero, List.set_cons_succ]
     apply tk 22 (some 27) (.nilCheck (.tmp 26)) 0 (some (15, true)) rfl (by kernel_rfl) (fun _ _ _ h => h) (by rfl) hSS
     ·(intro a h; (try dsimp only at h); (try go_split_ands); go_simp; try with_reducible rfl)
     apply tk 23 (some 28) (.fieldAddr 48 (.tmp 27) 2) 0 (some (15, true)) rfl (by kernel_rfl) (fun _ _ _ h => h) (by rfl) hSS
     ·(intro a h; (try dsimp only at h); (try go_split_ands); go_simp; try with_reducible rfl)
     apply tk 24 (some 29) (.load 3 (.tmp 28)) 3 (some (15, true)) rfl (by kernel_rfl) (fun _ _ _ h => h) (by rfl) hSS
     ·(intro a h; (try dsimp only at h); (try go_split_ands); go_simp; try with_reducible rfl)
     apply tk 25 (some 30) (.binOp .add 3 (.tmp 25) (.tmp 29) 3) 3 (some (15, true)) rfl (by kernel_rfl) (fun _ _ _ h => h) (by rfl) hSS
     ·(intro a h; (try dsimp only at h); (try go_split_ands); go_simp; try with_reducible rfl)
     try simp only [Act.put, List.setIfInBounds_toArray, List.set_cons_zero, List.set_cons_succ]
     apply tk 26 (some 31) (.binOp .lss 3 (.tmp 21) (.tmp 30) 3) 4 (some (15, true)) rfl (by kernel_rfl) (fun _ _ _ h => h) (by rfl) hSS
     ·(intro a h; (try dsimp only at h); (try go_split_ands); go_simp; try with_reducible rfl)
     apply tk 27 (some 32) (.pick (.tmp 20) (.tmp 31) (.const (.bool false))) 4 (some (8, false)) rfl (by kernel_rfl) (fun _ _ _ h => h) (by rfl) hSS
     ·(intro a h; (try dsimp only at h); (try go_split_ands); go_simp; try with_reducible rfl)
     apply tk 28 (some 33) (.pick (.tmp 13) (.const (.bool true)) (.tmp 32)) 4 none rfl (by kernel_rfl) (fun _ _ _ h => h) (by rfl) hSS
     ·(intro a h; (try dsimp only at h); (try go_split_ands); go_simp; try with_reducible rfl)
     try simp only [Act.put, List.setIfInBounds_toArray, List.set_cons_zero, List.set_cons_succ]
     refine wpAnyH_done (by kernel_rfl) ?_ _
     go_wp2
     go_ret
     exact ⟨rfl, FIN.out⟩
   ·have d3 : decide ((fr : Int) ≤ at_) = false := decide_eq_false h3
    have hc2 := HCd.out
    rw [if_neg (by omega)] at hc2
    subst hc2
    clear HCd h1 h2 h3 hnb hfit
    go_enter Tryz.func15, Tryz.ntmps15
    go_wp2_with fail
    refine wp_region_held_drew (S := fun w' => w'.cell? ⟨g, 0, none⟩ = some (.slice ha L hc) ∧ w'.cell? ⟨g, 1, none⟩ = some (.int .i64 (fr : Int)) ∧ w'.cell? ⟨g, 2, none⟩ = some (.int .i64 (bl : Int))) (by kernel_rfl) ⟨c0, c1, c2⟩ (fun hSS => ?_)
    apply tk 0 (some 5) (.move (.tmp 1)) 3 none rfl (by kernel_rfl) (fun _ _ _ h => h) (by rfl) hSS
    ·(intro a h; (try dsimp only at h); (try go_split_ands); go_simp; try with_reducible rfl)
    apply tk 1 (some 6) (.binOp .lss 3 (.tmp 5) (.const (.int .i64 0)) 3) 4 none rfl (by kernel_rfl) (fun _ _ _ h => h) (by rfl) hSS
    ·(intro a h; (try dsimp only at h); (try go_split_ands); go_simp; try with_reducible rfl)
    try simp only [Act.put, List.setIfInBounds_toArray, List.set_cons_zero, List.set_cons_succ]
    apply tk 2 (some 7) (.move (.tmp 6)) 4 none rfl (by kernel_rfl) (fun _ _ _ h => h) (by rfl) hSS
    ·(intro a h; (try dsimp only at h); (try go_split_ands); go_simp; try with_reducible rfl)
    apply tk 3 (some 8) (.move (.tmp 1)) 3 (some (2, false)) rfl (by kernel_rfl) (fun _ _ _ h => h) (by rfl) hSS
    ·(intro a h; (try dsimp only at h); (try go_split_ands); go_simp; try with_reducible rfl)
    apply tk 4 (some 9) (.move (.tmp 0)) 40 (some (2, false)) rfl (by kernel_rfl) (fun _ _ _ h => h) (by rfl) hSS
    ·(intro a h; (try dsimp only at h); (try go_split_ands); go_simp; try with_reducible rfl)
    try simp only [Act.put, List.setIfInBounds_toArray, List.set_cons_zero, List.set_cons_succ]
    refine wpAnyH_ready (rs := [5]) (by kernel_rfl) (by simp) (AllReadyH.cons (o := ({ dst := some 10, op := Op.call { callee := Callee.value (Operand.func 14), args := #[Operand.tmp 9], argTypes := #[40] }, type := 3, pos := _, after := _, guard := some (2, false) } : Oper)) rfl (fun K9 hK9 => ?_) AllReadyH.nil)
    go_simp
    go_at_call 14
    refine Calls.mono (HD.out _ hSS) ?_
    rintro e w2 ⟨rfl, hw2⟩
    rw [hw2]
    clear hw2
    refine hK9.out _ _ hSS (fun hSS => ?_)
    clear hK9 K9
    try simp only [Act.put, List.setIfInBounds_toArray, List.set_cons_zero, List.set_cons_succ]
    apply tk 6 (some 11) (.binOp .geq 3 (.tmp 8) (.tmp 10) 3) 4 (some (2, false)) rfl (by kernel_rfl) (fun _ _ _ h => h) (by rfl) hSS
    ·(intro a h; (try dsimp only at h); (try go_split_ands); go_simp; try with_reducible rfl)
    apply tk 7 (some 12) (.pick (.tmp 7) (.const (.bool true)) (.tmp 11)) 4 none rfl (by kernel_rfl) (fun _ _ _ h => h) (by rfl) hSS
    ·(intro a h; (try dsimp only at h); (try go_split_ands); go_simp; try with_reducible rfl)
    try simp only [Act.put, List.setIfInBounds_toArray, List.set_cons_zero, List.set_cons_succ]
    apply tk 8 (some 13) (.move (.tmp 12)) 4 none rfl (by kernel_rfl) (fun _ _ _ h => h) (by rfl) hSS
    ·(intro a h; (try dsimp only at h); (try go_split_ands); go_simp; try with_reducible rfl)
    apply tk 9 (some 14) (.move (.tmp 1)) 3 (some (8, false)) rfl (by kernel_rfl) (fun _ _ _ h => h) (by rfl) hSS
    ·(intro a h; (try dsimp only at h); (try go_split_ands); go_simp; try with_reducible rfl)
    apply tk 10 (some 15) (.move (.tmp 0)) 40 (some (8, false)) rfl (by kernel_rfl) (fun _ _ _ h => h) (by rfl) hSS
    ·(intro a h; (try dsimp only at h); (try go_split_ands); go_simp; try with_reducible rfl)
    apply tk 11 (some 16) (.nilCheck (.tmp 15)) 0 (some (8, false)) rfl (by kernel_rfl) (fun _ _ _ h => h) (by rfl) hSS
    ·(intro a h; (try dsimp only at h); (try go_split_ands); go_simp; try with_reducible rfl)
    try simp only [Act.put, List.setIfInBounds_toArray, List.set_cons_zero, List.set_cons_succ]
    apply tk 12 (some 17) (.fieldAddr 48 (.tmp 16) 1) 0 (some (8, false)) rfl (by kernel_rfl) (fun _ _ _ h => h) (by rfl) hSS
    ·(intro a h; (try dsimp only at h); (try go_split_ands); go_simp; try with_reducible rfl)
    apply tk 13 (some 18) (.load 3 (.tmp 17)) 3 (some (8, false)) rfl (by kernel_rfl) (fun _ _ _ h => h) (by rfl) hSS
    ·(intro a h; (try dsimp only at h); (try go_split_ands); go_simp; try with_reducible rfl)
    apply tk 14 (some 19) (.binOp .geq 3 (.tmp 14) (.tmp 18) 3) 4 (some (8, false)) rfl (by kernel_rfl) (fun _ _ _ h => h) (by rfl) hSS
    ·(intro a h; (try dsimp only at h); (try go_split_ands); go_simp; try with_reducible rfl)
    apply tk 15 (some 20) (.move (.tmp 19)) 4 (some (8, false)) rfl (by kernel_rfl) (fun _ _ _ h => h) (by rfl) hSS
    ·(intro a h; (try dsimp only at h); (try go_split_ands); go_simp; try with_reducible rfl)
    try simp only [Act.put, List.setIfInBounds_toArray, List.set_cons_zero, List.set_cons_succ]
    refine sk 16 (some 21) (.move (.tmp 1)) 3 (some (15, true)) rfl (by kernel_rfl) (fun _ _ _ h => h) (by rfl) hSS ?_
    refine sk 17 (some 22) (.move (.tmp 0)) 40 (some (15, true)) rfl (by kernel_rfl) (fun _ _ _ h => h) (by rfl) hSS ?_
    refine sk 18 (some 23) (.nilCheck (.tmp 22)) 0 (some (15, true)) rfl (by kernel_rfl) (fun _ _ _ h => h) (by rfl) hSS ?_
    refine sk 19 (some 24) (.fieldAddr 48 (.tmp 23) 1) 0 (some (15, true)) rfl (by kernel_rfl) (fun _ _ _ h => h) (by rfl) hSS ?_
    try simp only [Act.put, List.setIfInBounds_toArray, List.set_cons_zero, List.set_cons_succ]
    refine sk 20 (some 25) (.load 3 (.tmp 24)) 3 (some (15, true)) rfl (by kernel_rfl) (fun _ _ _ h => h) (by rfl) hSS ?_
    refine sk 21 (some 26) (.move (.tmp 0)) 40 (some (15, true)) rfl (by kernel_rfl) (fun _ _ _ h => h) (by rfl) hSS ?_
    refine sk 22 (some 27) (.nilCheck (.tmp 26)) 0 (some (15, true)) rfl (by kernel_rfl) (fun _ _ _ h => h) (by rfl) hSS ?_
    refine sk 23 (some 28) (.fieldAddr 48 (.tmp 27) 2) 0 (some (15, true)) rfl (by kernel_rfl) (fun _ _ _ h => h) (by rfl) hSS ?_
    try simp only [Act.put, List.setIfInBounds_toArray, List.set_cons_zero, List.set_cons_succ]
    refine sk 24 (some 29) (.load 3 (.tmp 28)) 3 (some (15, true)) rfl (by kernel_rfl) (fun _ _ _ h => h) (by rfl) hSS ?_
    refine sk 25 (some 30) (.binOp .add 3 (.tmp 25) (.tmp 29) 3) 3 (some (15, true)) rfl (by kernel_rfl) (fun _ _ _ h => h) (by rfl) hSS ?_
    refine sk 26 (some 31) (.binOp .lss 3 (.tmp 21) (.tmp 30) 3) 4 (some (15, true)) rfl (by kernel_rfl) (fun _ _ _ h => h) (by rfl) hSS ?_
    apply tk 27 (some 32) (.pick (.tmp 20) (.tmp 31) (.const (.bool false))) 4 (some (8, false)) rfl (by kernel_rfl) (fun _ _ _ h => h) (by rfl) hSS
    ·(intro a h; (try dsimp only at h); (try go_split_ands); go_simp; try with_reducible rfl)
    try simp only [Act.put, List.setIfInBounds_toArray, List.set_cons_zero, List.set_cons_succ]
    apply tk 28 (some 33) (.pick (.tmp 13) (.const (.bool true)) (.tmp 32)) 4 none rfl (by kernel_rfl) (fun _ _ _ h => h) (by rfl) hSS
    ·(intro a h; (try dsimp only at h); (try go_split_ands); go_simp; try with_reducible rfl)
    try simp only [Act.put, List.setIfInBounds_toArray, List.set_cons_zero, List.set_cons_succ]
    refine wpAnyH_done (by kernel_rfl) ?_ _
    go_wp2
    go_ret
    exact ⟨rfl, FIN.out⟩
end Go.Proofs.YtldlejpacgphmaaGreat
